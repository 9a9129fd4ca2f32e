/-
  CONTRACT of the program's reader's prog.
-/
import Derived.Test.YtpebfdplapeejaaGreatDoorMRsemi
import Derived.Test.YtpebfdplapeejaaGreatDoorMRdecl
import Derived.Test.YtpebfdplapeejaaGreatDoorMRset
import Derived.Deep.QuietTactic
import Derived.BigQuiet
import Derived.Deep.RegionLaw
import Derived.Deep.AppendLies
namespace Go.Proofs.YtpebfdplapeejaaGreatDoor
open Go.RowKit
open Pl

theorem Step.grow {rb : Nat} {a b c : World} (h : Step rb a b) {row : Option Nat} (hg : b.grownBy c row) (hr : ∀ k, row = some k → a.heap.size ≤ k) : Step rb a c :=
  ⟨hg.os.trans h.os, hg.tape.trans h.tape, hg.output.trans h.output, Nat.le_trans h.size hg.size, fun k hk hn => (hg.block k (Nat.lt_of_lt_of_le hk h.size) (fun e => by have := hr k e.symm; omega)).trans (h.block k hk hn)⟩
theorem Stem.treeP {rb : Nat} {a : Option Addr} {cap : Nat} {ws : List W3} {sz : Nat} {w : World} {p1 : Nat} {k : Int} {s : ByteArray} {w' : World} {els : List A} {sa : Option Addr} {sc j : Nat} (h : Stem rb a cap ws sz w p1 k s w' els sa sc j) : New (p1 + 1) (.node k s 0 sa sc els) := by
  rcases h.own.2 with ⟨e, h0⟩ | ⟨g, c, cur, e, hb, _⟩
  · have : els = [] := List.eq_nil_of_length_eq_zero h0
    subst this
    exact New.leaf _ _ _ _ _ _
  · have ea : sa = some ⟨g, 0, none⟩ := by simp at e; exact e.1
    subst ea
    exact New.node h.new hb (h.apart g rfl)
theorem sees_step (rb : Nat) (a : Option Addr) (cap : Nat) (ws : List W3) (i sz : Nat) (s : ByteArray) (w : World) (h : Rd w rb a cap ws i sz) (t : Bool) (ht : isW ws i s = t) :
    Calls Tryz.prog 32 #[.pointer (some ⟨rb, 0, none⟩), .string s] w fun e w' => e = .returned (.bool t) ∧ Rd w' rb a cap ws i sz ∧ Step rb w w' := by
  refine (sees_any rb a cap ws i sz s w h).mono ?_
  rintro e w' ⟨rfl, n, rfl⟩
  exact ⟨by rw [ht], h.drewN n, (Step.refl rb w).drewN n⟩
/-- A node that is answered has room for its list. -/
def TopE (e : Ending) : Prop := ∀ (k m : Int) (s : ByteArray) (a : Option Addr) (n c : Nat), e = .returned (.agg #[.int .i64 k, .string s, .int .i64 m, .slice a n c]) → n ≤ c ∧ c ≤ maxLen
theorem topE_died (e : Ending) (h : ∀ v, e ≠ .returned v) : TopE e := fun _ _ _ _ _ _ q => absurd q (h _)
theorem Stem.topE {rb : Nat} {a : Option Addr} {cap : Nat} {ws : List W3} {sz : Nat} {w : World} {p1 : Nat} {k : Int} {s : ByteArray} {w' : World} {els : List A} {sa : Option Addr} {sc j : Nat} (h : Stem rb a cap ws sz w p1 k s w' els sa sc j) : TopE (.returned (A.node k s 0 sa sc els).val) := fun k' m' s' a' n' c' e => by
  have e' : (A.node k s 0 sa sc els).val = .agg #[.int .i64 k', .string s', .int .i64 m', .slice a' n' c'] := by injection e
  simp only [A.val, Value.agg.injEq, Array.mk.injEq, List.cons.injEq, Value.slice.injEq, and_true] at e'
  obtain ⟨_, _, _, _, rfl, rfl⟩ := e'
  rcases h.own.2 with ⟨q, h0⟩ | ⟨g, c, cur, q, hb, hg, h1, h2, h3, h4⟩
  · simp at q; omega
  · simp at q
    obtain ⟨_, rfl⟩ := q
    exact ⟨by omega, by omega⟩
def IProg (rb : Nat) (a : Option Addr) (cap : Nat) (ws : List W3) (sz F : Nat) : Prop := ∀ w : World, Rd w rb a cap ws 0 sz → Calls Tryz.prog 18 #[.pointer (some ⟨rb, 0, none⟩)] w (fun e w' => Post rb a cap ws sz w (mProg ws F F [] 0) e w' ∧ TopE e)
set_option maxRecDepth 100000 in
set_option maxHeartbeats 8000000 in
theorem prog_all {rb : Nat} {a : Option Addr} {cap : Nat} {ws : List W3} {sz F : Nat} (he : Env ws) (hF : 5 * ws.length + 3 ≤ F) (hD : IDecl rb a cap ws sz) (hS : IStmt rb a cap ws sz F F) : IProg rb a cap ws sz F := by
  intro w h
  have hfew := he.few
  have HA := mkHid h
  have hrb := h.lt
  have HD := mkHid hD
  have HST := mkHid hS
  generalize hR : mProg ws F F [] 0 = R
  have HR := mkHid hR
  clear hR h hD hS he
  obtain ⟨i0, hi0, hz0⟩ := Option.map_eq_some_iff.1 Tryz.info33
  simp only [Prod.mk.injEq] at hz0
  obtain ⟨hz1, hz2, hz3⟩ := hz0
  have HI := mkHid (show Tryz.prog.info? 33 = some i0 ∧ i0.zero = some (.agg #[.int .i64 0, .string ByteArray.empty, .int .i64 0, .slice none 0 0]) ∧ i0.size = 4 ∧ i0.bytes = 56 from ⟨hi0, hz1, hz2, hz3⟩)
  clear hi0 hz1 hz2 hz3
  have hG := Stem.start (w := w) (heap_alloc_new w _) (HA.out.alloc _) ((Step.refl rb w).alloc _) hrb 40 ⟨#[]⟩
  have e0 : (w.alloc (.cells #[.int .i64 0, .string ⟨#[]⟩, .int .i64 0, .slice none 0 0] 33)).heap.size = w.heap.size + 1 := by simp
  rw [e0] at hG
  have HG := mkHid hG
  clear hG e0
  go_enter Tryz.func18, Tryz.ntmps18
  go_wp2
  go_loopw [] (fun w' => ∃ (els : List A) (sa : Option Addr) (sc j g : Nat), Stem rb a cap ws sz w (w.heap.size + 1) 40 ⟨#[]⟩ w' els sa sc j ∧ g ≤ F ∧ ws.length - j + 1 ≤ g ∧ els.length ≤ j ∧ j ≤ ws.length ∧ mProg ws F g (erases els) j = R) (fun w' => ws.length - posOf rb w')
  case atStart => exact ⟨[], none, 0, 0, F, HG.out, Nat.le_refl _, by omega, Nat.zero_le _, Nat.zero_le _, HR.out⟩
  case round =>
    obtain ⟨els, sa, sc, j, g, hG, hgf, hfu, hej, hjl, hm⟩ := hrel
    have G0 := mkHid hG
    have M0 := mkHid hm
    have hpos := hG.rd.pos
    have HPo := mkHid hpos
    clear hG hm hpos HG HR HA
    obtain ⟨g1, rfl⟩ : ∃ g1, g = g1 + 1 := ⟨g - 1, by omega⟩
    by_cases hd : (isW ws j ⟨#[118, 97, 114]⟩ || isW ws j ⟨#[97, 114, 114, 97, 121]⟩) = true
    · have hm : (mDecl ws j).then_ (fun x j => mProg ws F g1 (erases els ++ [x]) j) = R := by
        have := M0.out
        simp only [mProg] at this
        rw [if_pos hd] at this
        exact this
      have hO1 := fun w h => HD.out j w h
      have ha : ∀ t j2, mDecl ws j = .ok t j2 → j < j2 ∧ j2 ≤ ws.length := fun t j2 h => adv_decl h
      generalize mDecl ws j = r at hm hO1 ha
      have H1 := mkHid hO1
      have hv : isW ws j ⟨#[118, 97, 114]⟩ = true ∨ isW ws j ⟨#[118, 97, 114]⟩ = false ∧ isW ws j ⟨#[97, 114, 114, 97, 121]⟩ = true := by
        revert hd
        cases isW ws j ⟨#[118, 97, 114]⟩ <;> simp
      clear hO1 M0 hd
      rcases hv with hv | ⟨hv, hv2⟩
      · have C1 := mkHid (fun w h => sees_step rb a cap ws j sz ⟨#[118, 97, 114]⟩ w h true hv)
        clear hv
        go_wp2_with fail
        refine (C1.out _ G0.out.rd).mono ?_
        rintro e w2 ⟨rfl, r2, s2⟩
        have G2 := mkHid (G0.out.on s2 r2)
        clear r2 s2 C1
        obtain ⟨d0, d1, d2, d3, e0, e1, e2, e3⟩ := four_of G2.out.here
        have hp2 := G2.out.plt
        cases r with
        | no p =>
          have HR : Hid (R = .no p) := hm.symm
          clear hm ha
          go_wp2
          refine wp_region_any (by kernel_rfl) ?_
          change wpAny _ _ _ _ _ _ _ (World.drew _)
          refine wpAny_take (i := 0) (v := ?_) rfl (by kernel_rfl) (by kernel_rfl) (by kernel_rfl) (fun _ _ _ h => h) (Or.inl ⟨by rfl, ?_⟩) ?_
          rotate_left 1
          · intro w; go_simp; try with_reducible rfl
          refine wpAny_take (i := 2) (v := ?_) rfl (by kernel_rfl) (by kernel_rfl) (by kernel_rfl) (fun _ _ _ h => h) (Or.inl ⟨by rfl, ?_⟩) ?_
          rotate_left 1
          · intro w; go_simp; try with_reducible rfl
          refine wpAny_ready (rs := [1, 3]) (by kernel_rfl) (by simp) ?_
          refine AllReady.cons rfl (fun K hK => ?_) ?_
          · go_simp
            refine hK _ _ ?_
            clear hK K
            refine wpAny_ready (rs := [3]) (by kernel_rfl) (by simp) ?_
            refine AllReady.cons rfl (fun K hK => ?_) AllReady.nil
            go_simp
            refine (H1.out _ G2.out.rd.drew).mono ?_
            rintro e w3 ⟨⟨m, rfl⟩, r3, s3⟩
            exact ⟨rfl, by rw [HR.out]; exact ⟨⟨⟨m, rfl⟩, r3, G2.out.step.drew.trans s3⟩, topE_died _ (fun _ h => by cases h)⟩⟩
          · refine AllReady.cons rfl (fun K hK => ?_) AllReady.nil
            go_simp
            refine (H1.out _ G2.out.rd.drew).mono ?_
            rintro e w3 ⟨⟨m, rfl⟩, r3, s3⟩
            exact ⟨rfl, by rw [HR.out]; exact ⟨⟨⟨m, rfl⟩, r3, G2.out.step.drew.trans s3⟩, topE_died _ (fun _ h => by cases h)⟩⟩
        | ok y j3 =>
          obtain ⟨hj3, hj3l⟩ := ha y j3 rfl
          have HR : Hid (mProg ws F g1 (erases els ++ [y]) j3 = R) := hm
          clear hm ha
          go_wp2
          go_region_law (first | (go_simp; go_at_call 33; refine (H1.out _ G2.out.rd.drew).mono ?_; rintro e w3 ⟨z, rfl, hz3, hsz, hnz, r3, s3⟩; obtain ⟨zk, zs, zm, za, zc, zkk⟩ := z; simp only [A.val]; have T3 := G2.out.drew.on s3 r3; obtain ⟨b0, b1, b2, b3, g0, g1, g2, g3⟩ := four_of T3.here; have hp3 := T3.plt; have OW := mkHid (T3.own.alloc (.cells #[.int .i64 zk, .string zs, .int .i64 zm, .slice za zkk.length zc] 33)); have HT3 := mkHid T3; have HS3 := mkHid s3; have HZ := mkHid hz3; have HSZ := mkHid hsz; have HNZ := mkHid hnz; have HR3 := mkHid r3; clear T3 s3 hz3 hsz hnz r3) | (refine step_append_lies _ (by rfl) _ _ _ (by rfl) ((w.heap.size + 1) + 1) 33 i0 _ 4 56 Tryz.underlying31 HI.out.1 HI.out.2.1 HI.out.2.2.1 HI.out.2.2.2 rfl (by decide) _ _ _ (by rfl) OW.out ⟨w3.heap.size, 0, none⟩ 1 1 [.int .i64 zk, .string zs, .int .i64 zm, .slice za zkk.length zc] (by rfl) (by rfl) (World.news_of_block (heap_alloc_new w3 _)) (fun u hu => by simp at hu; rcases hu with rfl | rfl | rfl | rfl <;> rfl) (by decide) (by unfold maxLen; omega) (by omega) (by simp; omega) (w3.heap.size + 1) (by simp) ?_; intro g cq w4 hown hgrow hat hlt4; have GP := mkHid (Stem.push (x := .node zk zs zm za zc zkk) G2.out.drew HS3.out HR3.out HSZ.out HNZ.out _ hown hgrow hat); have K4 := (hgrow.block (w.heap.size + 1) (by simp; omega) (fun e => absurd (OW.out.lt _ e.symm).1 (Nat.not_succ_le_self _))).trans ((Lib.alloc_old w3 _ _ hp3).trans HT3.out.here); clear b0 b1 b2 b3 g0 g1 g2 g3; obtain ⟨l0, l1, l2, l3, m0, m1, m2, m3⟩ := four_of K4; clear K4 hown hgrow hat OW HS3 HSZ HNZ HR3))
          all_goals
              go_wp2
              go_roundw
              case rel => exact ⟨_, _, _, j3, g1, GP.out, by omega, by omega, by simp; omega, hj3l, by rw [erases_append]; simp only [erases]; rw [HZ.out]; exact HR.out⟩
              case measure => rw [HPo.out]; exact Nat.lt_of_le_of_lt (Nat.le_of_eq (congrArg (fun q => ws.length - q) GP.out.rd.pos)) (by omega)
      · have C1 := mkHid (fun w h => sees_step rb a cap ws j sz ⟨#[118, 97, 114]⟩ w h false hv)
        have C2 := mkHid (fun w h => sees_step rb a cap ws j sz ⟨#[97, 114, 114, 97, 121]⟩ w h true hv2)
        clear hv hv2
        go_wp2_with fail
        refine (C1.out _ G0.out.rd).mono ?_
        rintro e w9 ⟨rfl, r2, s2⟩
        have G9 := mkHid (G0.out.on s2 r2)
        clear r2 s2 C1
        go_wp2_with fail
        refine (C2.out _ G9.out.rd).mono ?_
        rintro e w2 ⟨rfl, r2, s2⟩
        have G2 := mkHid (G9.out.on s2 r2)
        clear r2 s2 C2
        obtain ⟨d0, d1, d2, d3, e0, e1, e2, e3⟩ := four_of G2.out.here
        have hp2 := G2.out.plt
        cases r with
        | no p =>
          have HR : Hid (R = .no p) := hm.symm
          clear hm ha
          go_wp2
          refine wp_region_any (by kernel_rfl) ?_
          change wpAny _ _ _ _ _ _ _ (World.drew _)
          refine wpAny_take (i := 0) (v := ?_) rfl (by kernel_rfl) (by kernel_rfl) (by kernel_rfl) (fun _ _ _ h => h) (Or.inl ⟨by rfl, ?_⟩) ?_
          rotate_left 1
          · intro w; go_simp; try with_reducible rfl
          refine wpAny_take (i := 2) (v := ?_) rfl (by kernel_rfl) (by kernel_rfl) (by kernel_rfl) (fun _ _ _ h => h) (Or.inl ⟨by rfl, ?_⟩) ?_
          rotate_left 1
          · intro w; go_simp; try with_reducible rfl
          refine wpAny_ready (rs := [1, 3]) (by kernel_rfl) (by simp) ?_
          refine AllReady.cons rfl (fun K hK => ?_) ?_
          · go_simp
            refine hK _ _ ?_
            clear hK K
            refine wpAny_ready (rs := [3]) (by kernel_rfl) (by simp) ?_
            refine AllReady.cons rfl (fun K hK => ?_) AllReady.nil
            go_simp
            refine (H1.out _ G2.out.rd.drew).mono ?_
            rintro e w3 ⟨⟨m, rfl⟩, r3, s3⟩
            exact ⟨rfl, by rw [HR.out]; exact ⟨⟨⟨m, rfl⟩, r3, G2.out.step.drew.trans s3⟩, topE_died _ (fun _ h => by cases h)⟩⟩
          · refine AllReady.cons rfl (fun K hK => ?_) AllReady.nil
            go_simp
            refine (H1.out _ G2.out.rd.drew).mono ?_
            rintro e w3 ⟨⟨m, rfl⟩, r3, s3⟩
            exact ⟨rfl, by rw [HR.out]; exact ⟨⟨⟨m, rfl⟩, r3, G2.out.step.drew.trans s3⟩, topE_died _ (fun _ h => by cases h)⟩⟩
        | ok y j3 =>
          obtain ⟨hj3, hj3l⟩ := ha y j3 rfl
          have HR : Hid (mProg ws F g1 (erases els ++ [y]) j3 = R) := hm
          clear hm ha
          go_wp2
          go_region_law (first | (go_simp; go_at_call 33; refine (H1.out _ G2.out.rd.drew).mono ?_; rintro e w3 ⟨z, rfl, hz3, hsz, hnz, r3, s3⟩; obtain ⟨zk, zs, zm, za, zc, zkk⟩ := z; simp only [A.val]; have T3 := G2.out.drew.on s3 r3; obtain ⟨b0, b1, b2, b3, g0, g1, g2, g3⟩ := four_of T3.here; have hp3 := T3.plt; have OW := mkHid (T3.own.alloc (.cells #[.int .i64 zk, .string zs, .int .i64 zm, .slice za zkk.length zc] 33)); have HT3 := mkHid T3; have HS3 := mkHid s3; have HZ := mkHid hz3; have HSZ := mkHid hsz; have HNZ := mkHid hnz; have HR3 := mkHid r3; clear T3 s3 hz3 hsz hnz r3) | (refine step_append_lies _ (by rfl) _ _ _ (by rfl) ((w.heap.size + 1) + 1) 33 i0 _ 4 56 Tryz.underlying31 HI.out.1 HI.out.2.1 HI.out.2.2.1 HI.out.2.2.2 rfl (by decide) _ _ _ (by rfl) OW.out ⟨w3.heap.size, 0, none⟩ 1 1 [.int .i64 zk, .string zs, .int .i64 zm, .slice za zkk.length zc] (by rfl) (by rfl) (World.news_of_block (heap_alloc_new w3 _)) (fun u hu => by simp at hu; rcases hu with rfl | rfl | rfl | rfl <;> rfl) (by decide) (by unfold maxLen; omega) (by omega) (by simp; omega) (w3.heap.size + 1) (by simp) ?_; intro g cq w4 hown hgrow hat hlt4; have GP := mkHid (Stem.push (x := .node zk zs zm za zc zkk) G2.out.drew HS3.out HR3.out HSZ.out HNZ.out _ hown hgrow hat); have K4 := (hgrow.block (w.heap.size + 1) (by simp; omega) (fun e => absurd (OW.out.lt _ e.symm).1 (Nat.not_succ_le_self _))).trans ((Lib.alloc_old w3 _ _ hp3).trans HT3.out.here); clear b0 b1 b2 b3 g0 g1 g2 g3; obtain ⟨l0, l1, l2, l3, m0, m1, m2, m3⟩ := four_of K4; clear K4 hown hgrow hat OW HS3 HSZ HNZ HR3))
          all_goals
              go_wp2
              go_roundw
              case rel => exact ⟨_, _, _, j3, g1, GP.out, by omega, by omega, by simp; omega, hj3l, by rw [erases_append]; simp only [erases]; rw [HZ.out]; exact HR.out⟩
              case measure => rw [HPo.out]; exact Nat.lt_of_le_of_lt (Nat.le_of_eq (congrArg (fun q => ws.length - q) GP.out.rd.pos)) (by omega)
    · have hm : mAll ws F (erases els) F [] j = R := by
        have := M0.out
        simp only [mProg] at this
        rw [if_neg hd] at this
        exact this
      have hv : isW ws j ⟨#[118, 97, 114]⟩ = false ∧ isW ws j ⟨#[97, 114, 114, 97, 121]⟩ = false := by
        revert hd
        cases isW ws j ⟨#[118, 97, 114]⟩ <;> simp
      obtain ⟨hv, hv2⟩ := hv
      have HM := mkHid hm
      have C1 := mkHid (fun w h => sees_step rb a cap ws j sz ⟨#[118, 97, 114]⟩ w h false hv)
      have C2 := mkHid (fun w h => sees_step rb a cap ws j sz ⟨#[97, 114, 114, 97, 121]⟩ w h false hv2)
      clear hm M0 hd hv hv2 HD HPo
      go_wp2_with fail
      refine (C1.out _ G0.out.rd).mono ?_
      rintro e w9 ⟨rfl, r2, s2⟩
      have G9 := mkHid (G0.out.on s2 r2)
      clear r2 s2 C1
      go_wp2_with fail
      refine (C2.out _ G9.out.rd).mono ?_
      rintro e w1 ⟨rfl, r2, s2⟩
      have G1 := mkHid (G9.out.on s2 r2)
      clear r2 s2 C2 G9 G0
      have hS2 := Stem.start G1.out.res G1.out.rd G1.out.step hrb 30 ⟨#[]⟩
      have HS2 := mkHid hS2
      have hp1 := G1.out.plt
      clear hS2
      go_wp2
      go_loopw [] (fun w' => ∃ (els2 : List A) (sa2 : Option Addr) (sc2 j2 g : Nat), Stem rb a cap ws sz w w1.heap.size 30 ⟨#[]⟩ w' els2 sa2 sc2 j2 ∧ Step rb w1 w' ∧ g ≤ F ∧ ws.length - j2 + 1 ≤ g ∧ els2.length ≤ j2 ∧ j2 ≤ ws.length ∧ mAll ws F (erases els) g (erases els2) j2 = R) (fun w' => ws.length - posOf rb w')
      case atStart => exact ⟨[], none, 0, j, F, HS2.out, (Step.refl rb w1).alloc _, Nat.le_refl _, by omega, Nat.zero_le _, hjl, HM.out⟩
      case round =>
        obtain ⟨els2, sa2, sc2, j2, g, hG, hst, hgf2, hfu2, hej2, hjl2, hm⟩ := hrel
        have G0 := mkHid hG
        have M0 := mkHid hm
        have S0 := mkHid hst
        have hpos := hG.rd.pos
        have HPo := mkHid hpos
        obtain ⟨x0, x1, _, _⟩ := hG.rd.cells
        clear hG hm hpos HS2 HM hst
        obtain ⟨g2, rfl⟩ : ∃ g2, g = g2 + 1 := ⟨g - 1, by omega⟩
        by_cases hlt : j2 < ws.length
        · have hl : decide ((j2 : Int) < (ws.length : Int)) = true := by simp; omega
          have hm : (mStmt ws F F j2).then_ (fun x j => mAll ws F (erases els) g2 (erases els2 ++ [x]) j) = R := by
            have := M0.out
            simp only [mAll] at this
            rw [if_pos hlt] at this
            exact this
          have hO1 := fun w h => HST.out j2 w (by omega) h
          have ha := (advS ws F F).1 j2
          generalize mStmt ws F F j2 = r at hm hO1 ha
          have H1 := mkHid hO1
          clear hO1 M0
          go_wp2
          go_quiet (fail)
          generalize hW : wr.drewN nq = W
          have G2' := (G0.out.on ((Step.refl rb wr).drewN nq) (G0.out.rd.drewN nq))
          have S2' := S0.out.drewN nq
          rw [hW] at G2' S2'
          have G2 := mkHid G2'
          have S2 := mkHid S2'
          clear G2' S2' hW x0 x1
          obtain ⟨d0, d1, d2, d3, e0, e1, e2, e3⟩ := four_of G2.out.here
          have hp2 := G2.out.plt
          cases r with
          | no p =>
            have HR : Hid (R = .no p) := hm.symm
            clear hm ha
            go_wp2
            refine wp_region_any (by kernel_rfl) ?_
            change wpAny _ _ _ _ _ _ _ (World.drew _)
            refine wpAny_take (i := 0) (v := ?_) rfl (by kernel_rfl) (by kernel_rfl) (by kernel_rfl) (fun _ _ _ h => h) (Or.inl ⟨by rfl, ?_⟩) ?_
            rotate_left 1
            · intro w; go_simp; try with_reducible rfl
            refine wpAny_take (i := 2) (v := ?_) rfl (by kernel_rfl) (by kernel_rfl) (by kernel_rfl) (fun _ _ _ h => h) (Or.inl ⟨by rfl, ?_⟩) ?_
            rotate_left 1
            · intro w; go_simp; try with_reducible rfl
            refine wpAny_ready (rs := [1, 3]) (by kernel_rfl) (by simp) ?_
            refine AllReady.cons rfl (fun K hK => ?_) ?_
            · go_simp
              refine hK _ _ ?_
              clear hK K
              refine wpAny_ready (rs := [3]) (by kernel_rfl) (by simp) ?_
              refine AllReady.cons rfl (fun K hK => ?_) AllReady.nil
              go_simp
              refine (H1.out _ G2.out.rd.drew).mono ?_
              rintro e w3 ⟨⟨m, rfl⟩, r3, s3⟩
              exact ⟨rfl, by rw [HR.out]; exact ⟨⟨⟨m, rfl⟩, r3, G2.out.step.drew.trans s3⟩, topE_died _ (fun _ h => by cases h)⟩⟩
            · refine AllReady.cons rfl (fun K hK => ?_) AllReady.nil
              go_simp
              refine (H1.out _ G2.out.rd.drew).mono ?_
              rintro e w3 ⟨⟨m, rfl⟩, r3, s3⟩
              exact ⟨rfl, by rw [HR.out]; exact ⟨⟨⟨m, rfl⟩, r3, G2.out.step.drew.trans s3⟩, topE_died _ (fun _ h => by cases h)⟩⟩
          | ok y j3 =>
            obtain ⟨hj3, hj3l⟩ := ha y j3 rfl
            have HR : Hid (mAll ws F (erases els) g2 (erases els2 ++ [y]) j3 = R) := hm
            clear hm ha
            go_wp2
            go_region_law (first | (go_simp; go_at_call 34; refine (H1.out _ G2.out.rd.drew).mono ?_; rintro e w3 ⟨z, rfl, hz3, hsz, hnz, r3, s3⟩; obtain ⟨zk, zs, zm, za, zc, zkk⟩ := z; simp only [A.val]; have T3 := G2.out.drew.on s3 r3; obtain ⟨b0, b1, b2, b3, g0, g1, g2, g3⟩ := four_of T3.here; have hp3 := T3.plt; have OW := mkHid (T3.own.alloc (.cells #[.int .i64 zk, .string zs, .int .i64 zm, .slice za zkk.length zc] 33)); have HT3 := mkHid T3; have HS3 := mkHid s3; have HZ := mkHid hz3; have HSZ := mkHid hsz; have HNZ := mkHid hnz; have HR3 := mkHid r3; clear T3 s3 hz3 hsz hnz r3) | (refine step_append_lies _ (by rfl) _ _ _ (by rfl) (w1.heap.size + 1) 33 i0 _ 4 56 Tryz.underlying31 HI.out.1 HI.out.2.1 HI.out.2.2.1 HI.out.2.2.2 rfl (by decide) _ _ _ (by rfl) OW.out ⟨w3.heap.size, 0, none⟩ 1 1 [.int .i64 zk, .string zs, .int .i64 zm, .slice za zkk.length zc] (by rfl) (by rfl) (World.news_of_block (heap_alloc_new w3 _)) (fun u hu => by simp at hu; rcases hu with rfl | rfl | rfl | rfl <;> rfl) (by decide) (by unfold maxLen; omega) (by omega) (by simp; omega) (w3.heap.size + 1) (by simp) ?_; intro g cq w4 hown hgrow hat hlt4; have GP := mkHid (Stem.push (x := .node zk zs zm za zc zkk) G2.out.drew HS3.out HR3.out HSZ.out HNZ.out _ hown hgrow hat); have K4 := (hgrow.block w1.heap.size (by simp; omega) (fun e => absurd (OW.out.lt _ e.symm).1 (Nat.not_succ_le_self _))).trans ((Lib.alloc_old w3 _ _ hp3).trans HT3.out.here); have SP := mkHid ((((S2.out.drew.trans HS3.out).alloc _).grow hgrow (fun k hk => by have := (OW.out.lt k hk).1; omega)).setCell (p := ⟨w1.heap.size, 3, none⟩) (.inl (Nat.le_refl _)) (.slice (some ⟨g, 0, none⟩) (els2.length + 1) cq)); clear b0 b1 b2 b3 g0 g1 g2 g3; obtain ⟨l0, l1, l2, l3, m0, m1, m2, m3⟩ := four_of K4; clear K4 hown hgrow hat OW HS3 HSZ HNZ HR3))
            all_goals
                go_wp2
                go_roundw
                case rel => exact ⟨_, _, _, j3, g2, GP.out, SP.out, by omega, by omega, by simp; omega, hj3l, by rw [erases_append]; simp only [erases]; rw [HZ.out]; exact HR.out⟩
                case measure => rw [HPo.out]; exact Nat.lt_of_le_of_lt (Nat.le_of_eq (congrArg (fun q => ws.length - q) GP.out.rd.pos)) (by omega)
        · have hl : decide ((j2 : Int) < (ws.length : Int)) = false := by simp; omega
          have HR : Hid (R = .ok (.node 40 nil_ 0 (erases els ++ [.node 30 nil_ 0 (erases els2)])) j2) := by
            show _ = _
            have := M0.out
            simp only [mAll] at this
            rw [if_neg hlt] at this
            exact this.symm
          clear M0
          go_wp2
          go_quiet (fail)
          generalize hW : wr.drewN nq = W
          have G2' := (G0.out.on ((Step.refl rb wr).drewN nq) (G0.out.rd.drewN nq))
          have S2' := S0.out.drewN nq
          rw [hW] at G2' S2'
          have GN' := G1.out.on S2' G2'.rd
          obtain ⟨t1, _⟩ := G2'.tree (by decide) (by unfold maxLen; omega)
          have t2 := G2'.treeP
          have HT1 := mkHid t1
          have HT2 := mkHid (t2.mono (Nat.le_succ _))
          have G2 := mkHid G2'
          have S2 := mkHid S2'
          have GN := mkHid GN'
          clear G2' S2' GN' hW x0 x1 t1 t2
          obtain ⟨d0, d1, d2, d3, _⟩ := four_of G2.out.here
          obtain ⟨n0, n1, n2, n3, n4, n5, n6, n7⟩ := four_of GN.out.here
          have hq1 := GN.out.plt
          have OW := mkHid (GN.out.own.alloc (.cells #[.int .i64 30, .string ⟨#[]⟩, .int .i64 0, .slice sa2 els2.length sc2] 33))
          go_wp2_with (at_builtin; refine wpList_append_lies _ rfl _ _ _ rfl (w.heap.size + 1 + 1) 33 i0 _ 4 56 Tryz.underlying31 HI.out.1 HI.out.2.1 HI.out.2.2.1 HI.out.2.2.2 rfl (by decide) _ _ _ rfl OW.out ⟨W.heap.size, 0, none⟩ 1 1 [.int .i64 30, .string ⟨#[]⟩, .int .i64 0, .slice sa2 els2.length sc2] rfl rfl (World.news_of_block (heap_alloc_new W _)) (fun u hu => by simp at hu; rcases hu with rfl | rfl | rfl | rfl <;> rfl) (by decide) (by unfold maxLen; omega) (by omega) (by simp; omega) (W.heap.size + 1) (by simp) ?_)
          intro g cq w4 hown hgrow hat hlt4
          have GP := mkHid (Stem.push (x := .node 30 ⟨#[]⟩ 0 sa2 sc2 els2) G1.out S2.out G2.out.rd HT1.out HT2.out _ hown hgrow hat)
          have K4 := (hgrow.block (w.heap.size + 1) (by simp; omega) (fun e => absurd (OW.out.lt _ e.symm).1 (Nat.not_succ_le_self _))).trans ((Lib.alloc_old W _ _ hq1).trans GN.out.here)
          obtain ⟨l0, l1, l2, l3, m0, m1, m2, m3⟩ := four_of K4
          clear K4 hown hgrow hat OW d0 d1 d2 d3 n0 n1 n2 n3 n4 n5 n6 n7
          have PR := GP.out.rest
          obtain ⟨c0, c1, c2, c3, f0, f1, f2, f3⟩ := four_of PR
          go_wp2
          obtain ⟨q0, q1, q2, q3⟩ := put4_cells0 GP.out.res (.int .i64 40) (.string ⟨#[]⟩) (.int .i64 0) (.slice (some ⟨g, 0, none⟩) (els.length + 1) cq)
          obtain ⟨t1, t2⟩ := GP.out.tree (by decide) (by simp; unfold maxLen; omega)
          refine bodyPost_ret (v := (A.node 40 ⟨#[]⟩ 0 (some ⟨g, 0, none⟩) cq (els ++ [.node 30 ⟨#[]⟩ 0 sa2 sc2 els2])).val) (by simp [results, Tryz.results18, go_sem, q0, q1, q2, q3, A.val]) rfl ?_
          rw [HR.out]
          exact ⟨end_tree _ _ _ _ _ GP.out.rd hrb GP.out.step (by simp only [A.erase]; rw [erases_append]; simp only [erases, A.erase]; rfl) t1 t2 (by omega), GP.out.topE⟩
end Go.Proofs.YtpebfdplapeejaaGreatDoor
