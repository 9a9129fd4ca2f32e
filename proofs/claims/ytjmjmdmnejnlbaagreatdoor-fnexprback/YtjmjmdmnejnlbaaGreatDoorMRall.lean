/-
  CONTRACT of the program's reader's prog.
  CONTRACTS of the program's reader's place, and of the function that Parse defers.
  THE PROGRAM'S READER, all together.
-/
import Derived.Test.YtjmjmdmnejnlbaaGreatDoorMRif
import Derived.Test.YtjmjmdmnejnlbaaGreatDoorMRdecl
import Derived.Test.YtjmjmdmnejnlbaaGreatDoorMRput
import Derived.Deep.QuietTactic
import Derived.BigQuiet
import Derived.Deep.RegionLaw
import Derived.Deep.AppendLies
import Derived.Defers
import Derived.Recover
import Derived.Test.YtjmjmdmnejnlbaaGreatDoorMRfor
namespace Go.Proofs.YtjmjmdmnejnlbaaGreatDoor
open Go.RowKit
open Pl

theorem Step.grow {rb : Nat} {a b c : World} (h : Step rb a b) {row : Option Nat} (hg : b.grownBy c row) (hr : ∀ k, row = some k → a.heap.size ≤ k) : Step rb a c :=
 ⟨hg.os.trans h.os, hg.tape.trans h.tape, hg.output.trans h.output, Nat.le_trans h.size hg.size, fun k hk hn => (hg.block k (Nat.lt_of_lt_of_le hk h.size) (fun e => by have := hr k e.symm; omega)).trans (h.block k hk hn)⟩
theorem Stem.treeP {rb : Nat} {a : Option Addr} {cap : Nat} {ws : List W3} {sz : Nat} {w : World} {p1 : Nat} {k : Int} {s : ByteArray} {w' : World} {els : List A} {sa : Option Addr} {sc j : Nat} (h : Stem rb a cap ws sz w p1 k s w' els sa sc j) : New (p1 + 1) (.node k s 0 sa sc els) := by
 rcases h.own.2 with ⟨e, h0⟩ | ⟨g, c, cur, e, hb, _⟩
 ·have : els = [] := List.eq_nil_of_length_eq_zero h0
  subst this
  exact New.leaf _ _ _ _ _ _
 ·have ea : sa = some ⟨g, 0, none⟩ := by simp at e; exact e.1
  subst ea
  exact New.node h.new hb (h.apart g rfl)
theorem sees_step (rb : Nat) (a : Option Addr) (cap : Nat) (ws : List W3) (i sz : Nat) (s : ByteArray) (w : World) (h : Rd w rb a cap ws i sz) (t : Bool) (ht : isW ws i s = t) :
    Calls Tryz.prog 71 #[.pointer (some ⟨rb, 0, none⟩), .string s] w fun e w' => e = .returned (.bool t) ∧ Rd w' rb a cap ws i sz ∧ Step rb w w' := by
 refine (sees_any rb a cap ws i sz s w h).mono ?_
 rintro e w' ⟨rfl, n, rfl⟩
 exact ⟨by rw [ht], h.drewN n, (Step.refl rb w).drewN n⟩
def IProg (rb : Nat) (a : Option Addr) (cap : Nat) (ws : List W3) (sz F : Nat) : Prop := ∀ w : World, Rd w rb a cap ws 0 sz → Calls Tryz.prog 35 #[.pointer (some ⟨rb, 0, none⟩)] w (Post rb a cap ws sz w (mProg ws F F [] 0))
set_option maxRecDepth 100000 in
set_option maxHeartbeats 8000000 in
theorem prog_all {rb : Nat} {a : Option Addr} {cap : Nat} {ws : List W3} {sz F : Nat} (he : Env ws) (hF : 5 * ws.length + 3 ≤ F) (hD : IDecl rb a cap ws sz) (hS : IStmt rb a cap ws sz F F) : IProg rb a cap ws sz F := by
 intro w h
 have hfew := he.few
 have HA := mkHid h
 have hrb := h.lt
 have HD := mkHid hD
 have HST := mkHid hS
 generalize hR : mProg ws F F [] 0 = R
 have HR := mkHid hR
 clear hR h hD hS he
 obtain ⟨i0, hi0, hz0⟩ := Option.map_eq_some_iff.1 Tryz.info26
 simp only [Prod.mk.injEq] at hz0
 obtain ⟨hz1, hz2, hz3⟩ := hz0
 have HI := mkHid (show Tryz.prog.info? 26 = some i0 ∧ i0.zero = some (.agg #[.int .i64 0, .string ByteArray.empty, .int .i64 0, .slice none 0 0]) ∧ i0.size = 4 ∧ i0.bytes = 56 from ⟨hi0, hz1, hz2, hz3⟩)
 clear hi0 hz1 hz2 hz3
 have hG := Stem.start (w := w) (heap_alloc_new w _) (HA.out.alloc _) ((Step.refl rb w).alloc _) hrb 40 ⟨#[]⟩
 have e0 : (w.alloc (.cells #[.int .i64 0, .string ⟨#[]⟩, .int .i64 0, .slice none 0 0] 26)).heap.size = w.heap.size + 1 := by simp
 rw [e0] at hG
 have HG := mkHid hG
 clear hG e0
 go_enter Tryz.func35, Tryz.ntmps35
 go_wp2
 go_loopw [] (fun w' => ∃ (els : List A) (sa : Option Addr) (sc j g : Nat), Stem rb a cap ws sz w (w.heap.size + 1) 40 ⟨#[]⟩ w' els sa sc j ∧ g ≤ F ∧ ws.length - j + 1 ≤ g ∧ els.length ≤ j ∧ j ≤ ws.length ∧ mProg ws F g (erases els) j = R) (fun w' => ws.length - posOf rb w')
 case atStart => exact ⟨[], none, 0, 0, F, HG.out, Nat.le_refl _, by omega, Nat.zero_le _, Nat.zero_le _, HR.out⟩
 case round =>
  obtain ⟨els, sa, sc, j, g, hG, hgf, hfu, hej, hjl, hm⟩ := hrel
  have G0 := mkHid hG
  have M0 := mkHid hm
  have hpos := hG.rd.pos
  have HPo := mkHid hpos
  clear hG hm hpos HG HR HA
  obtain ⟨g1, rfl⟩ : ∃ g1, g = g1 + 1 := ⟨g - 1, by omega⟩
  by_cases hd : (isW ws j ⟨#[118, 97, 114]⟩ || isW ws j ⟨#[97, 114, 114, 97, 121]⟩) = true
  ·have hm : (mDecl ws j).then_ (fun x j => mProg ws F g1 (erases els ++ [x]) j) = R := by
     have := M0.out
     simp only [mProg] at this
     rw [if_pos hd] at this
     exact this
   have hO1 := fun w h => HD.out j w h
   have ha : ∀ t j2, mDecl ws j = .ok t j2 → j < j2 ∧ j2 ≤ ws.length := fun t j2 h => adv_decl h
   generalize mDecl ws j = r at hm hO1 ha
   have H1 := mkHid hO1
   have hv : isW ws j ⟨#[118, 97, 114]⟩ = true ∨ isW ws j ⟨#[118, 97, 114]⟩ = false ∧ isW ws j ⟨#[97, 114, 114, 97, 121]⟩ = true := by
    revert hd
    cases isW ws j ⟨#[118, 97, 114]⟩ <;> simp
   clear hO1 M0 hd
   rcases hv with hv | ⟨hv, hv2⟩
   ·have C1 := mkHid (fun w h => sees_step rb a cap ws j sz ⟨#[118, 97, 114]⟩ w h true hv)
    clear hv
    go_wp2_with fail
    refine (C1.out _ G0.out.rd).mono ?_
    rintro e w2 ⟨rfl, r2, s2⟩
    have G2 := mkHid (G0.out.on s2 r2)
    clear r2 s2 C1
    obtain ⟨d0, d1, d2, d3, e0, e1, e2, e3⟩ := four_of G2.out.here
    have hp2 := G2.out.plt
    cases r with
    | no p =>
      have HR : Hid (R = .no p) := hm.symm
      clear hm ha
      go_wp2
      refine wp_region_any (by kernel_rfl) ?_
      change wpAny _ _ _ _ _ _ _ (World.drew _)
      refine wpAny_take (i := 0) (v := ?_) rfl (by kernel_rfl) (by kernel_rfl) (by kernel_rfl) (fun _ _ _ h => h) (Or.inl ⟨by rfl, ?_⟩) ?_
      rotate_left 1
      ·intro w; go_simp; try with_reducible rfl
      refine wpAny_take (i := 2) (v := ?_) rfl (by kernel_rfl) (by kernel_rfl) (by kernel_rfl) (fun _ _ _ h => h) (Or.inl ⟨by rfl, ?_⟩) ?_
      rotate_left 1
      ·intro w; go_simp; try with_reducible rfl
      refine wpAny_ready (rs := [1, 3]) (by kernel_rfl) (by simp) ?_
      refine AllReady.cons rfl (fun K hK => ?_) ?_
      ·go_simp
       refine hK _ _ ?_
       clear hK K
       refine wpAny_ready (rs := [3]) (by kernel_rfl) (by simp) ?_
       refine AllReady.cons rfl (fun K hK => ?_) AllReady.nil
       go_simp
       refine (H1.out _ G2.out.rd.drew).mono ?_
       rintro e w3 ⟨⟨m, rfl⟩, r3, s3⟩
       exact ⟨rfl, by rw [HR.out]; exact ⟨⟨m, rfl⟩, r3, G2.out.step.drew.trans s3⟩⟩
      ·refine AllReady.cons rfl (fun K hK => ?_) AllReady.nil
       go_simp
       refine (H1.out _ G2.out.rd.drew).mono ?_
       rintro e w3 ⟨⟨m, rfl⟩, r3, s3⟩
       exact ⟨rfl, by rw [HR.out]; exact ⟨⟨m, rfl⟩, r3, G2.out.step.drew.trans s3⟩⟩
    | ok y j3 =>
      obtain ⟨hj3, hj3l⟩ := ha y j3 rfl
      have HR : Hid (mProg ws F g1 (erases els ++ [y]) j3 = R) := hm
      clear hm ha
      go_wp2
      go_region_law (first | (go_simp; go_at_call 72; refine (H1.out _ G2.out.rd.drew).mono ?_; rintro e w3 ⟨z, rfl, hz3, hsz, hnz, r3, s3⟩; obtain ⟨zk, zs, zm, za, zc, zkk⟩ := z; simp only [A.val]; have T3 := G2.out.drew.on s3 r3; obtain ⟨b0, b1, b2, b3, g0, g1, g2, g3⟩ := four_of T3.here; have hp3 := T3.plt; have OW := mkHid (T3.own.alloc (.cells #[.int .i64 zk, .string zs, .int .i64 zm, .slice za zkk.length zc] 26)); have HT3 := mkHid T3; have HS3 := mkHid s3; have HZ := mkHid hz3; have HSZ := mkHid hsz; have HNZ := mkHid hnz; have HR3 := mkHid r3; clear T3 s3 hz3 hsz hnz r3) | (refine step_append_lies _ (by rfl) _ _ _ (by rfl) ((w.heap.size + 1) + 1) 26 i0 _ 4 56 Tryz.underlying24 HI.out.1 HI.out.2.1 HI.out.2.2.1 HI.out.2.2.2 rfl (by decide) _ _ _ (by rfl) OW.out ⟨w3.heap.size, 0, none⟩ 1 1 [.int .i64 zk, .string zs, .int .i64 zm, .slice za zkk.length zc] (by rfl) (by rfl) (World.news_of_block (heap_alloc_new w3 _)) (fun u hu => by simp at hu; rcases hu with rfl | rfl | rfl | rfl <;> rfl) (by decide) (by unfold maxLen; omega) (by omega) (by simp; omega) (w3.heap.size + 1) (by simp) ?_; intro g cq w4 hown hgrow hat hlt4; have GP := mkHid (Stem.push (x := .node zk zs zm za zc zkk) G2.out.drew HS3.out HR3.out HSZ.out HNZ.out _ hown hgrow hat); have K4 := (hgrow.block (w.heap.size + 1) (by simp; omega) (fun e => absurd (OW.out.lt _ e.symm).1 (Nat.not_succ_le_self _))).trans ((Lib.alloc_old w3 _ _ hp3).trans HT3.out.here); clear b0 b1 b2 b3 g0 g1 g2 g3; obtain ⟨l0, l1, l2, l3, m0, m1, m2, m3⟩ := four_of K4; clear K4 hown hgrow hat OW HS3 HSZ HNZ HR3))
      all_goals
          go_wp2
          go_roundw
          case rel => exact ⟨_, _, _, j3, g1, GP.out, by omega, by omega, by simp; omega, hj3l, by rw [erases_append]; simp only [erases]; rw [HZ.out]; exact HR.out⟩
          case measure => rw [HPo.out]; exact Nat.lt_of_le_of_lt (Nat.le_of_eq (congrArg (fun q => ws.length - q) GP.out.rd.pos)) (by omega)
   ·have C1 := mkHid (fun w h => sees_step rb a cap ws j sz ⟨#[118, 97, 114]⟩ w h false hv)
    have C2 := mkHid (fun w h => sees_step rb a cap ws j sz ⟨#[97, 114, 114, 97, 121]⟩ w h true hv2)
    clear hv hv2
    go_wp2_with fail
    refine (C1.out _ G0.out.rd).mono ?_
    rintro e w9 ⟨rfl, r2, s2⟩
    have G9 := mkHid (G0.out.on s2 r2)
    clear r2 s2 C1
    go_wp2_with fail
    refine (C2.out _ G9.out.rd).mono ?_
    rintro e w2 ⟨rfl, r2, s2⟩
    have G2 := mkHid (G9.out.on s2 r2)
    clear r2 s2 C2
    obtain ⟨d0, d1, d2, d3, e0, e1, e2, e3⟩ := four_of G2.out.here
    have hp2 := G2.out.plt
    cases r with
    | no p =>
      have HR : Hid (R = .no p) := hm.symm
      clear hm ha
      go_wp2
      refine wp_region_any (by kernel_rfl) ?_
      change wpAny _ _ _ _ _ _ _ (World.drew _)
      refine wpAny_take (i := 0) (v := ?_) rfl (by kernel_rfl) (by kernel_rfl) (by kernel_rfl) (fun _ _ _ h => h) (Or.inl ⟨by rfl, ?_⟩) ?_
      rotate_left 1
      ·intro w; go_simp; try with_reducible rfl
      refine wpAny_take (i := 2) (v := ?_) rfl (by kernel_rfl) (by kernel_rfl) (by kernel_rfl) (fun _ _ _ h => h) (Or.inl ⟨by rfl, ?_⟩) ?_
      rotate_left 1
      ·intro w; go_simp; try with_reducible rfl
      refine wpAny_ready (rs := [1, 3]) (by kernel_rfl) (by simp) ?_
      refine AllReady.cons rfl (fun K hK => ?_) ?_
      ·go_simp
       refine hK _ _ ?_
       clear hK K
       refine wpAny_ready (rs := [3]) (by kernel_rfl) (by simp) ?_
       refine AllReady.cons rfl (fun K hK => ?_) AllReady.nil
       go_simp
       refine (H1.out _ G2.out.rd.drew).mono ?_
       rintro e w3 ⟨⟨m, rfl⟩, r3, s3⟩
       exact ⟨rfl, by rw [HR.out]; exact ⟨⟨m, rfl⟩, r3, G2.out.step.drew.trans s3⟩⟩
      ·refine AllReady.cons rfl (fun K hK => ?_) AllReady.nil
       go_simp
       refine (H1.out _ G2.out.rd.drew).mono ?_
       rintro e w3 ⟨⟨m, rfl⟩, r3, s3⟩
       exact ⟨rfl, by rw [HR.out]; exact ⟨⟨m, rfl⟩, r3, G2.out.step.drew.trans s3⟩⟩
    | ok y j3 =>
      obtain ⟨hj3, hj3l⟩ := ha y j3 rfl
      have HR : Hid (mProg ws F g1 (erases els ++ [y]) j3 = R) := hm
      clear hm ha
      go_wp2
      go_region_law (first | (go_simp; go_at_call 72; refine (H1.out _ G2.out.rd.drew).mono ?_; rintro e w3 ⟨z, rfl, hz3, hsz, hnz, r3, s3⟩; obtain ⟨zk, zs, zm, za, zc, zkk⟩ := z; simp only [A.val]; have T3 := G2.out.drew.on s3 r3; obtain ⟨b0, b1, b2, b3, g0, g1, g2, g3⟩ := four_of T3.here; have hp3 := T3.plt; have OW := mkHid (T3.own.alloc (.cells #[.int .i64 zk, .string zs, .int .i64 zm, .slice za zkk.length zc] 26)); have HT3 := mkHid T3; have HS3 := mkHid s3; have HZ := mkHid hz3; have HSZ := mkHid hsz; have HNZ := mkHid hnz; have HR3 := mkHid r3; clear T3 s3 hz3 hsz hnz r3) | (refine step_append_lies _ (by rfl) _ _ _ (by rfl) ((w.heap.size + 1) + 1) 26 i0 _ 4 56 Tryz.underlying24 HI.out.1 HI.out.2.1 HI.out.2.2.1 HI.out.2.2.2 rfl (by decide) _ _ _ (by rfl) OW.out ⟨w3.heap.size, 0, none⟩ 1 1 [.int .i64 zk, .string zs, .int .i64 zm, .slice za zkk.length zc] (by rfl) (by rfl) (World.news_of_block (heap_alloc_new w3 _)) (fun u hu => by simp at hu; rcases hu with rfl | rfl | rfl | rfl <;> rfl) (by decide) (by unfold maxLen; omega) (by omega) (by simp; omega) (w3.heap.size + 1) (by simp) ?_; intro g cq w4 hown hgrow hat hlt4; have GP := mkHid (Stem.push (x := .node zk zs zm za zc zkk) G2.out.drew HS3.out HR3.out HSZ.out HNZ.out _ hown hgrow hat); have K4 := (hgrow.block (w.heap.size + 1) (by simp; omega) (fun e => absurd (OW.out.lt _ e.symm).1 (Nat.not_succ_le_self _))).trans ((Lib.alloc_old w3 _ _ hp3).trans HT3.out.here); clear b0 b1 b2 b3 g0 g1 g2 g3; obtain ⟨l0, l1, l2, l3, m0, m1, m2, m3⟩ := four_of K4; clear K4 hown hgrow hat OW HS3 HSZ HNZ HR3))
      all_goals
          go_wp2
          go_roundw
          case rel => exact ⟨_, _, _, j3, g1, GP.out, by omega, by omega, by simp; omega, hj3l, by rw [erases_append]; simp only [erases]; rw [HZ.out]; exact HR.out⟩
          case measure => rw [HPo.out]; exact Nat.lt_of_le_of_lt (Nat.le_of_eq (congrArg (fun q => ws.length - q) GP.out.rd.pos)) (by omega)
  ·have hm : mAll ws F (erases els) F [] j = R := by
     have := M0.out
     simp only [mProg] at this
     rw [if_neg hd] at this
     exact this
   have hv : isW ws j ⟨#[118, 97, 114]⟩ = false ∧ isW ws j ⟨#[97, 114, 114, 97, 121]⟩ = false := by
    revert hd
    cases isW ws j ⟨#[118, 97, 114]⟩ <;> simp
   obtain ⟨hv, hv2⟩ := hv
   have HM := mkHid hm
   have C1 := mkHid (fun w h => sees_step rb a cap ws j sz ⟨#[118, 97, 114]⟩ w h false hv)
   have C2 := mkHid (fun w h => sees_step rb a cap ws j sz ⟨#[97, 114, 114, 97, 121]⟩ w h false hv2)
   clear hm M0 hd hv hv2 HD HPo
   go_wp2_with fail
   refine (C1.out _ G0.out.rd).mono ?_
   rintro e w9 ⟨rfl, r2, s2⟩
   have G9 := mkHid (G0.out.on s2 r2)
   clear r2 s2 C1
   go_wp2_with fail
   refine (C2.out _ G9.out.rd).mono ?_
   rintro e w1 ⟨rfl, r2, s2⟩
   have G1 := mkHid (G9.out.on s2 r2)
   clear r2 s2 C2 G9 G0
   have hS2 := Stem.start G1.out.res G1.out.rd G1.out.step hrb 30 ⟨#[]⟩
   have HS2 := mkHid hS2
   have hp1 := G1.out.plt
   clear hS2
   go_wp2
   go_loopw [] (fun w' => ∃ (els2 : List A) (sa2 : Option Addr) (sc2 j2 g : Nat), Stem rb a cap ws sz w w1.heap.size 30 ⟨#[]⟩ w' els2 sa2 sc2 j2 ∧ Step rb w1 w' ∧ g ≤ F ∧ ws.length - j2 + 1 ≤ g ∧ els2.length ≤ j2 ∧ j2 ≤ ws.length ∧ mAll ws F (erases els) g (erases els2) j2 = R) (fun w' => ws.length - posOf rb w')
   case atStart => exact ⟨[], none, 0, j, F, HS2.out, (Step.refl rb w1).alloc _, Nat.le_refl _, by omega, Nat.zero_le _, hjl, HM.out⟩
   case round =>
    obtain ⟨els2, sa2, sc2, j2, g, hG, hst, hgf2, hfu2, hej2, hjl2, hm⟩ := hrel
    have G0 := mkHid hG
    have M0 := mkHid hm
    have S0 := mkHid hst
    have hpos := hG.rd.pos
    have HPo := mkHid hpos
    obtain ⟨x0, x1, _, _⟩ := hG.rd.cells
    clear hG hm hpos HS2 HM hst
    obtain ⟨g2, rfl⟩ : ∃ g2, g = g2 + 1 := ⟨g - 1, by omega⟩
    by_cases hlt : j2 < ws.length
    ·have hl : decide ((j2 : Int) < (ws.length : Int)) = true := by simp; omega
     have hm : (mStmt ws F F j2).then_ (fun x j => mAll ws F (erases els) g2 (erases els2 ++ [x]) j) = R := by
      have := M0.out
      simp only [mAll] at this
      rw [if_pos hlt] at this
      exact this
     have hO1 := fun w h => HST.out j2 w (by omega) h
     have ha := (advS ws F F).1 j2
     generalize mStmt ws F F j2 = r at hm hO1 ha
     have H1 := mkHid hO1
     clear hO1 M0
     go_wp2
     go_quiet (fail)
     generalize hW : wr.drewN nq = W
     have G2' := (G0.out.on ((Step.refl rb wr).drewN nq) (G0.out.rd.drewN nq))
     have S2' := S0.out.drewN nq
     rw [hW] at G2' S2'
     have G2 := mkHid G2'
     have S2 := mkHid S2'
     clear G2' S2' hW x0 x1
     obtain ⟨d0, d1, d2, d3, e0, e1, e2, e3⟩ := four_of G2.out.here
     have hp2 := G2.out.plt
     cases r with
     | no p =>
       have HR : Hid (R = .no p) := hm.symm
       clear hm ha
       go_wp2
       refine wp_region_any (by kernel_rfl) ?_
       change wpAny _ _ _ _ _ _ _ (World.drew _)
       refine wpAny_take (i := 0) (v := ?_) rfl (by kernel_rfl) (by kernel_rfl) (by kernel_rfl) (fun _ _ _ h => h) (Or.inl ⟨by rfl, ?_⟩) ?_
       rotate_left 1
       ·intro w; go_simp; try with_reducible rfl
       refine wpAny_take (i := 2) (v := ?_) rfl (by kernel_rfl) (by kernel_rfl) (by kernel_rfl) (fun _ _ _ h => h) (Or.inl ⟨by rfl, ?_⟩) ?_
       rotate_left 1
       ·intro w; go_simp; try with_reducible rfl
       refine wpAny_ready (rs := [1, 3]) (by kernel_rfl) (by simp) ?_
       refine AllReady.cons rfl (fun K hK => ?_) ?_
       ·go_simp
        refine hK _ _ ?_
        clear hK K
        refine wpAny_ready (rs := [3]) (by kernel_rfl) (by simp) ?_
        refine AllReady.cons rfl (fun K hK => ?_) AllReady.nil
        go_simp
        refine (H1.out _ G2.out.rd.drew).mono ?_
        rintro e w3 ⟨⟨m, rfl⟩, r3, s3⟩
        exact ⟨rfl, by rw [HR.out]; exact ⟨⟨m, rfl⟩, r3, G2.out.step.drew.trans s3⟩⟩
       ·refine AllReady.cons rfl (fun K hK => ?_) AllReady.nil
        go_simp
        refine (H1.out _ G2.out.rd.drew).mono ?_
        rintro e w3 ⟨⟨m, rfl⟩, r3, s3⟩
        exact ⟨rfl, by rw [HR.out]; exact ⟨⟨m, rfl⟩, r3, G2.out.step.drew.trans s3⟩⟩
     | ok y j3 =>
       obtain ⟨hj3, hj3l⟩ := ha y j3 rfl
       have HR : Hid (mAll ws F (erases els) g2 (erases els2 ++ [y]) j3 = R) := hm
       clear hm ha
       go_wp2
       go_region_law (first | (go_simp; go_at_call 73; refine (H1.out _ G2.out.rd.drew).mono ?_; rintro e w3 ⟨z, rfl, hz3, hsz, hnz, r3, s3⟩; obtain ⟨zk, zs, zm, za, zc, zkk⟩ := z; simp only [A.val]; have T3 := G2.out.drew.on s3 r3; obtain ⟨b0, b1, b2, b3, g0, g1, g2, g3⟩ := four_of T3.here; have hp3 := T3.plt; have OW := mkHid (T3.own.alloc (.cells #[.int .i64 zk, .string zs, .int .i64 zm, .slice za zkk.length zc] 26)); have HT3 := mkHid T3; have HS3 := mkHid s3; have HZ := mkHid hz3; have HSZ := mkHid hsz; have HNZ := mkHid hnz; have HR3 := mkHid r3; clear T3 s3 hz3 hsz hnz r3) | (refine step_append_lies _ (by rfl) _ _ _ (by rfl) (w1.heap.size + 1) 26 i0 _ 4 56 Tryz.underlying24 HI.out.1 HI.out.2.1 HI.out.2.2.1 HI.out.2.2.2 rfl (by decide) _ _ _ (by rfl) OW.out ⟨w3.heap.size, 0, none⟩ 1 1 [.int .i64 zk, .string zs, .int .i64 zm, .slice za zkk.length zc] (by rfl) (by rfl) (World.news_of_block (heap_alloc_new w3 _)) (fun u hu => by simp at hu; rcases hu with rfl | rfl | rfl | rfl <;> rfl) (by decide) (by unfold maxLen; omega) (by omega) (by simp; omega) (w3.heap.size + 1) (by simp) ?_; intro g cq w4 hown hgrow hat hlt4; have GP := mkHid (Stem.push (x := .node zk zs zm za zc zkk) G2.out.drew HS3.out HR3.out HSZ.out HNZ.out _ hown hgrow hat); have K4 := (hgrow.block w1.heap.size (by simp; omega) (fun e => absurd (OW.out.lt _ e.symm).1 (Nat.not_succ_le_self _))).trans ((Lib.alloc_old w3 _ _ hp3).trans HT3.out.here); have SP := mkHid ((((S2.out.drew.trans HS3.out).alloc _).grow hgrow (fun k hk => by have := (OW.out.lt k hk).1; omega)).setCell (p := ⟨w1.heap.size, 3, none⟩) (.inl (Nat.le_refl _)) (.slice (some ⟨g, 0, none⟩) (els2.length + 1) cq)); clear b0 b1 b2 b3 g0 g1 g2 g3; obtain ⟨l0, l1, l2, l3, m0, m1, m2, m3⟩ := four_of K4; clear K4 hown hgrow hat OW HS3 HSZ HNZ HR3))
       all_goals
           go_wp2
           go_roundw
           case rel => exact ⟨_, _, _, j3, g2, GP.out, SP.out, by omega, by omega, by simp; omega, hj3l, by rw [erases_append]; simp only [erases]; rw [HZ.out]; exact HR.out⟩
           case measure => rw [HPo.out]; exact Nat.lt_of_le_of_lt (Nat.le_of_eq (congrArg (fun q => ws.length - q) GP.out.rd.pos)) (by omega)
    ·have hl : decide ((j2 : Int) < (ws.length : Int)) = false := by simp; omega
     have HR : Hid (R = .ok (.node 40 nil_ 0 (erases els ++ [.node 30 nil_ 0 (erases els2)])) j2) := by
      show _ = _
      have := M0.out
      simp only [mAll] at this
      rw [if_neg hlt] at this
      exact this.symm
     clear M0
     go_wp2
     go_quiet (fail)
     generalize hW : wr.drewN nq = W
     have G2' := (G0.out.on ((Step.refl rb wr).drewN nq) (G0.out.rd.drewN nq))
     have S2' := S0.out.drewN nq
     rw [hW] at G2' S2'
     have GN' := G1.out.on S2' G2'.rd
     obtain ⟨t1, _⟩ := G2'.tree (by decide) (by unfold maxLen; omega)
     have t2 := G2'.treeP
     have HT1 := mkHid t1
     have HT2 := mkHid (t2.mono (Nat.le_succ _))
     have G2 := mkHid G2'
     have S2 := mkHid S2'
     have GN := mkHid GN'
     clear G2' S2' GN' hW x0 x1 t1 t2
     obtain ⟨d0, d1, d2, d3, _⟩ := four_of G2.out.here
     obtain ⟨n0, n1, n2, n3, n4, n5, n6, n7⟩ := four_of GN.out.here
     have hq1 := GN.out.plt
     have OW := mkHid (GN.out.own.alloc (.cells #[.int .i64 30, .string ⟨#[]⟩, .int .i64 0, .slice sa2 els2.length sc2] 26))
     go_wp2_with (at_builtin; refine wpList_append_lies _ rfl _ _ _ rfl (w.heap.size + 1 + 1) 26 i0 _ 4 56 Tryz.underlying24 HI.out.1 HI.out.2.1 HI.out.2.2.1 HI.out.2.2.2 rfl (by decide) _ _ _ rfl OW.out ⟨W.heap.size, 0, none⟩ 1 1 [.int .i64 30, .string ⟨#[]⟩, .int .i64 0, .slice sa2 els2.length sc2] rfl rfl (World.news_of_block (heap_alloc_new W _)) (fun u hu => by simp at hu; rcases hu with rfl | rfl | rfl | rfl <;> rfl) (by decide) (by unfold maxLen; omega) (by omega) (by simp; omega) (W.heap.size + 1) (by simp) ?_)
     intro g cq w4 hown hgrow hat hlt4
     have GP := mkHid (Stem.push (x := .node 30 ⟨#[]⟩ 0 sa2 sc2 els2) G1.out S2.out G2.out.rd HT1.out HT2.out _ hown hgrow hat)
     have K4 := (hgrow.block (w.heap.size + 1) (by simp; omega) (fun e => absurd (OW.out.lt _ e.symm).1 (Nat.not_succ_le_self _))).trans ((Lib.alloc_old W _ _ hq1).trans GN.out.here)
     obtain ⟨l0, l1, l2, l3, m0, m1, m2, m3⟩ := four_of K4
     clear K4 hown hgrow hat OW d0 d1 d2 d3 n0 n1 n2 n3 n4 n5 n6 n7
     have PR := GP.out.rest
     obtain ⟨c0, c1, c2, c3, f0, f1, f2, f3⟩ := four_of PR
     go_wp2
     obtain ⟨q0, q1, q2, q3⟩ := put4_cells0 GP.out.res (.int .i64 40) (.string ⟨#[]⟩) (.int .i64 0) (.slice (some ⟨g, 0, none⟩) (els.length + 1) cq)
     obtain ⟨t1, t2⟩ := GP.out.tree (by decide) (by simp; unfold maxLen; omega)
     refine bodyPost_ret (v := (A.node 40 ⟨#[]⟩ 0 (some ⟨g, 0, none⟩) cq (els ++ [.node 30 ⟨#[]⟩ 0 sa2 sc2 els2])).val) (by simp [results, Tryz.results35, go_sem, q0, q1, q2, q3, A.val]) rfl ?_
     rw [HR.out]
     exact end_tree _ _ _ _ _ GP.out.rd hrb GP.out.step (by simp only [A.erase]; rw [erases_append]; simp only [erases, A.erase]; rfl) t1 t2 (by omega)
end Go.Proofs.YtjmjmdmnejnlbaaGreatDoor
namespace Go.Proofs.YtjmjmdmnejnlbaaGreatDoor
open Go.RowKit
open Pl

/-- Where a word stands, the text's length behind the last. -/
def placeI (ws : List W3) (p : Nat) (sz : Int) : Int := match ws[p]? with
 | some x => x.a
 | none => sz
set_option maxRecDepth 100000 in
set_option maxHeartbeats 1000000 in
theorem place_any (rb : Nat) (a : Option Addr) (cap : Nat) (ws : List W3) (i sz : Nat) (w : World) (h : Rd w rb a cap ws i sz) :
    Calls Tryz.prog 34 #[.pointer (some ⟨rb, 0, none⟩)] w fun e w' => e = .returned (.int .i64 (placeI ws i sz)) ∧ ∃ n, w' = w.drewN n := by
 obtain ⟨c0, c1, c2, _⟩ := h.cells
 have hf := h.few
 by_cases hlt : i < ws.length
 ·obtain ⟨x, hx⟩ : ∃ x, ws[i]? = some x := ⟨_, List.getElem?_eq_getElem hlt⟩
  obtain ⟨g, rfl, d0, d1, d2⟩ := h.word hx
  have HW := mkHid (show placeI ws i sz = x.a by unfold placeI; rw [hx])
  have hl : decide ((i : Int) < (ws.length : Int)) = true := by simp; omega
  have i0 : (0 : Int) ≤ (i : Int) := by omega
  have i1 : (i : Int) < (ws.length : Int) := by omega
  clear hx h d0 d1 c2
  go_enter Tryz.func34, Tryz.ntmps34
  go_wp2
  go_quiet (fail)
  go_wp2
  go_quiet (fail)
  go_wp2
  go_ret
  exact ⟨ret_int (by rw [HW.out]), _, by first | exact World.drewN_drewN | exact World.drewN_drewN _ _ _⟩
 ·have HW := mkHid (show placeI ws i sz = sz by unfold placeI; rw [List.getElem?_eq_none (by omega)])
  have hl : decide ((i : Int) < (ws.length : Int)) = false := by simp; omega
  clear h
  go_enter Tryz.func34, Tryz.ntmps34
  go_wp2
  go_quiet (fail)
  go_wp2
  go_ret
  exact ⟨ret_int (by rw [HW.out]), _, rfl⟩

/-- The deferred function where nothing has panicked. -/
theorem catch_idle (p q r : Addr) (w : World) :
    CallsD Tryz.prog 33 #[.pointer (some p), .pointer (some q), .pointer (some r)] .returning w fun e u' w' => e = .returned (.tuple #[]) ∧ u' = .returning ∧ w' = w := by
 refine callsD_of_wpS Tryz.func33 rfl fun c₀ cs hu => ?_
 apply wpS_seq
 apply wpS_region
 simp [wpOpsS, go_sem, recoverD, hu, Tryz.ntmps33, Exit.thenS]
 refine wpS_cond (t := false) (by simp [Act.eval, Array.replicate]) ?_
 simp only [Bool.false_eq_true, if_false]
 refine wpS_of_wp (wp_skip ?_)
 cases c₀
 simp_all [bodyPostS, results, Tryz.results33]

def six (w : World) (b c : Nat) (p0 p1 p2 p3 q0 q1 : Value) : World := ((put4 w b p0 p1 p2 p3).setCell ⟨c, 0, none⟩ q0).setCell ⟨c, 1, none⟩ q1
set_option maxRecDepth 100000 in
set_option maxHeartbeats 2000000 in
theorem catch_panicking (rb : Nat) (a : Option Addr) (cap : Nat) (ws : List W3) (i sz b c : Nat) (m : ByteArray) (w : World) (h : Rd w rb a cap ws i sz) {u0 u1 u2 u3 v0 v1 : Value}
    (hb : w.heap[b]? = some (.cells #[u0, u1, u2, u3] 26 (0, 0))) (hc : w.heap[c]? = some (.cells #[v0, v1] 31 (0, 0))) (hbc : b ≠ c) :
    CallsD Tryz.prog 33 #[.pointer (some ⟨rb, 0, none⟩), .pointer (some ⟨b, 0, none⟩), .pointer (some ⟨c, 0, none⟩)] (.panicking [{ v := .iface 9 (.string m), recovered := false }]) w fun e u' w' =>
     e = .returned (.tuple #[]) ∧ u' = .panicking [{ v := .iface 9 (.string m), recovered := true }] ∧ ∃ n, w' = six (w.drewN n) b c (.int .i64 0) (.string ⟨#[]⟩) (.int .i64 0) (.slice none 0 0) (.int .i64 4) (.int .i64 (placeI ws i sz)) := by
 have HP := mkHid (place_any rb a cap ws i sz w h)
 obtain ⟨c0, c1, c2, c3, f0, f1, f2, f3⟩ := four_of hb
 have d0 : w.cell? ⟨c, 0, none⟩ = some v0 := by rw [Lib.cell_of_heap hc]; rfl
 have d1 : w.cell? ⟨c, 1, none⟩ = some v1 := by rw [Lib.cell_of_heap hc]; rfl
 have e0 := Lib.frozen_of_heap hc 0
 have e1 := Lib.frozen_of_heap hc 1
 have hcb : c ≠ b := fun e => hbc e.symm
 clear h hb hc
 refine callsD_of_wpS Tryz.func33 rfl fun c₀ cs hu => ?_
 apply wpS_seq
 apply wpS_region
 simp [wpOpsS, go_sem, recoverD, hu, Tryz.ntmps33, Exit.thenS]
 refine wpS_cond (t := true) (by simp [Act.eval, Array.replicate]) ?_
 simp only [if_true]
 refine wpS_of_wp ?_
 simp only [Array.replicate, List.replicate]
 go_wp2_with fail
 refine HP.out.mono ?_
 rintro e w1 ⟨rfl, n, rfl⟩
 go_wp2
 exact ⟨rfl, _, rfl, .tuple #[], by simp [results, Tryz.results33], rfl, rfl, n, rfl⟩
end Go.Proofs.YtjmjmdmnejnlbaaGreatDoor
namespace Go.Proofs.YtjmjmdmnejnlbaaGreatDoor
open Go.RowKit
open Pl

theorem stmt_step {rb : Nat} {a : Option Addr} {cap : Nat} {ws : List W3} {sz F f : Nat} (he : Env ws) (hF : 5 * ws.length + 3 ≤ F) (hE : IExpr rb a cap ws sz F) (hC : ICond rb a cap ws sz F) (hS : IShort rb a cap ws sz F) (hB : IBlock rb a cap ws sz F f) : IStmt rb a cap ws sz F (f + 1) := by
 intro i w hf h
 by_cases n0 : isW ws i ⟨#[105, 102]⟩ = true
 ·exact stmt_if hC hB i w hf h n0
 ·simp only [Bool.not_eq_true] at n0
  by_cases n1 : isW ws i ⟨#[119, 104, 105, 108, 101]⟩ = true
  ·exact stmt_while hC hB i w hf h n0 n1
  ·simp only [Bool.not_eq_true] at n1
   by_cases n2 : isW ws i ⟨#[102, 111, 114]⟩ = true
   ·exact stmt_for he hE hF hB i w hf h n0 n1 n2
   ·simp only [Bool.not_eq_true] at n2
    exact stmt_short hS i w h n0 n1 n2
theorem stmt_all {rb : Nat} {a : Option Addr} {cap : Nat} {ws : List W3} {sz F : Nat} (he : Env ws) (hF : 5 * ws.length + 3 ≤ F) (f : Nat) : ∀ g, g ≤ f → IStmt rb a cap ws sz F g ∧ IBlock rb a cap ws sz F g := by
 have hE : IExpr rb a cap ws sz F := (expr_all he F F (Nat.le_refl _)).2.2
 have hC : ICond rb a cap ws sz F := cond_all hF hE
 have hS : IShort rb a cap ws sz F := short_all he hE hF hC
 induction f with
 | zero =>
   intro g hg
   have : g = 0 := by omega
   subst this
   exact ⟨fun i w h => by omega, fun i w h => by omega⟩
 | succ f ih =>
   intro g hg
   by_cases q : g ≤ f
   ·exact ih g q
   ·have : g = f + 1 := by omega
    subst this
    exact ⟨stmt_step he hF hE hC hS (ih f (Nat.le_refl _)).2, block_step he fun g hg => (ih g hg).1⟩
theorem reader_all {rb : Nat} {a : Option Addr} {cap : Nat} {ws : List W3} {sz F : Nat} (he : Env ws) (hF : 5 * ws.length + 3 ≤ F) : IProg rb a cap ws sz F :=
 prog_all he hF (decl_all he) (stmt_all he hF F F (Nat.le_refl _)).1
end Go.Proofs.YtjmjmdmnejnlbaaGreatDoor
