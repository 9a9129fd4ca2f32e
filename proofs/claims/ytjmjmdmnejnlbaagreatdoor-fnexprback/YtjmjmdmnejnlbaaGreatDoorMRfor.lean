/-
  CONTRACT of the program's reader's stmt: for.
-/
import Derived.Test.YtjmjmdmnejnlbaaGreatDoorMRput
import Derived.Test.YtjmjmdmnejnlbaaGreatDoorMRif
import Derived.Deep.RegionLaw
import Derived.Deep.AppendLies
namespace Go.Proofs.YtjmjmdmnejnlbaaGreatDoor
open Go.RowKit
open Pl

theorem sitsL_app {w : World} {xs ys : List A} (h : SitsL w xs) (hy : SitsL w ys) : SitsL w (xs ++ ys) :=
 (sitsL_iff _ _).2 fun y hm => by
  rcases List.mem_append.1 hm with hm | hm
  ·exact (sitsL_iff _ _).1 h y hm
  ·exact (sitsL_iff _ _).1 hy y hm
theorem NewL.app {n n1 : Nat} {xs ys : List A} (h : NewL n xs) (hlt : ∀ b ∈ feet xs, b < n1) (hx : NewL n1 ys) (hn : n ≤ n1) : NewL n (xs ++ ys) := by
 unfold NewL
 rw [feet_append]
 refine ⟨List.nodup_append.2 ⟨h.1, hx.1, fun p hp q hq e => ?_⟩, fun b hb => ?_⟩
 ·have h1 := hlt p hp
  have h2 := hx.2 q hq
  omega
 ·rcases List.mem_append.1 hb with hb | hb
  ·exact h.2 b hb
  ·exact Nat.le_trans hn (hx.2 b hb)
/-- Trees more. -/
theorem Stem.pushL {rb : Nat} {a : Option Addr} {cap : Nat} {ws : List W3} {sz : Nat} {w : World} {p1 : Nat} {k : Int} {s : ByteArray} {w' : World} {els : List A} {sa : Option Addr} {sc : Nat} {j : Nat} {w3 w4 : World} {x : List A} {j2 g c2 n2 : Nat} (hn2 : x.length = n2) (h : Stem rb a cap ws sz w p1 k s w' els sa sc j) (st : Step rb w' w3) (r : Rd w3 rb a cap ws j2 sz) (hx : SitsL w3 x) (hn : NewL w'.heap.size x) (cs : Array Value)
    (hown : w4.ownsRow (p1 + 1) 26 4 (.slice (some ⟨g, 0, none⟩) (els.length + n2) c2) (els.length + n2) (cellsL els ++ cellsL x)) (hgrow : (w3.alloc (.cells cs 26)).grownBy w4 (Value.slice sa els.length sc).ownBlock)
    (hat : (Value.slice sa els.length sc).ownBlock = some g ∨ g = w3.heap.size + 1) :
    Stem rb a cap ws sz w p1 k s (w4.setCell ⟨p1, 3, none⟩ (.slice (some ⟨g, 0, none⟩) (els.length + n2) c2)) (els ++ x) (some ⟨g, 0, none⟩) c2 j2 := by
 have h3 := h.on st r
 have hr := h.rlt
 have hl := h.lt
 have hp := h3.plt
 have hp0 := h.plt
 have lx := SitsL.lt hx
 have le := SitsL.lt h3.sits
 have le0 := SitsL.lt h.sits
 have hol := h.own.lt
 have hlen : (els ++ x).length = els.length + n2 := by simp [hn2]
 have hcl : cellsL (els ++ x) = cellsL els ++ cellsL x := cellsL_append _ _
 -- what the append leaves
 have keep : ∀ q, q < w3.heap.size → (∀ g', (Value.slice sa els.length sc).ownBlock = some g' → q ≠ g') → w4.heap[q]? = w3.heap[q]? := fun q hq hne => by
  rw [hgrow.block q (by simp; omega) (fun e => hne q e.symm rfl), Lib.alloc_old _ _ _ hq]
 have gg : p1 + 1 ≤ g := by
  have := (hown.lt g rfl).1
  exact this
 have set : ∀ q, q ≠ p1 → (w4.setCell ⟨p1, 3, none⟩ (.slice (some ⟨g, 0, none⟩) (els.length + n2) c2)).heap[q]? = w4.heap[q]? := fun q hq => Below.heap_setCell _ _ _ _ hq
 have p1k := keep p1 hp (fun g' e => by have := (hol g' e).1; omega)
 refine ⟨?_, ?_, ?_, ?_, ?_, ?_, ?_, ?_, hl, hr⟩
 ·have := heap_setCell_same w4 p1 3 _ 26 (.slice (some ⟨g, 0, none⟩) (els.length + n2) c2) (p1k.trans h3.here)
  rw [this, hlen]; rfl
 ·rw [set _ (by omega), keep _ (by omega) (fun g' e => by have := (hol g' e).1; omega)]
  exact h3.res
 ·rw [hlen, hcl]
  exact hown.kept (row := some p1) ⟨rfl, rfl, rfl, by simp [World.setCell], fun q _ hq => set q (fun e => hq (by rw [e]))⟩ (.inr fun e => by simp [Value.ownBlock] at e; omega)
 ·refine sitsL_app (h3.sits.stay fun q hq => ?_) (hx.stay fun q hq => ?_)
  ·rw [set q (by have := h.new.2 q hq; omega), keep q (le q hq) (fun g' e => fun e2 => h.apart g' e (e2 ▸ hq))]
  ·rw [set q (by have := hn.2 q hq; omega), keep q (lx q hq) (fun g' e => by have := (hol g' e).2; have := hn.2 q hq; omega)]
 ·exact NewL.app h.new le0 hn (by omega)
 ·intro g' e hq
  rw [hlen] at e
  simp [Value.ownBlock] at e
  subst e
  rw [feet_append, List.mem_append] at hq
  rcases hat with hat | hat
  ·rcases hq with hq | hq
   ·exact h.apart g hat hq
   ·have := (hol g hat).2
    have := hn.2 g hq
    omega
  ·rcases hq with hq | hq
   ·have := le g hq; omega
   ·have := lx g hq; omega
 ·refine Rd.setCell ?_ (show rb < p1 by omega) _
  refine (r.alloc (.cells cs 26)).keep ⟨hgrow.os, hgrow.tape, hgrow.output, hgrow.size, fun q hq => hgrow.block q (by have := r.lt; simp; omega) (fun e => by have := (hol q e.symm).1; omega)⟩
 ·have h4 : Step rb w w4 := ⟨hgrow.os.trans h3.step.os, hgrow.tape.trans h3.step.tape, hgrow.output.trans h3.step.output, by have := hgrow.size; have := h3.step.size; simp at *; omega, fun q hq hne => by
    have := h3.step.size
    rw [keep q (by omega) (fun g' e => by have := (hol g' e).1; omega)]
    exact h3.step.block q hq hne⟩
  exact h4.setCell (.inl (show w.heap.size ≤ p1 by omega)) _

set_option maxRecDepth 100000 in
set_option maxHeartbeats 8000000 in
theorem stmt_for {rb : Nat} {a : Option Addr} {cap : Nat} {ws : List W3} {sz F f : Nat} (he : Env ws) (hE : IExpr rb a cap ws sz F) (hF : 5 * ws.length + 3 ≤ F) (hB : IBlock rb a cap ws sz F f) (i : Nat) (w : World) (hf : 3 * (ws.length - i) + 1 ≤ f + 1) (h : Rd w rb a cap ws i sz) (n0 : isW ws i ⟨#[105, 102]⟩ = false) (n1 : isW ws i ⟨#[119, 104, 105, 108, 101]⟩ = false) (h1 : isW ws i ⟨#[102, 111, 114]⟩ = true) :
    Calls Tryz.prog 73 #[.pointer (some ⟨rb, 0, none⟩)] w (Post rb a cap ws sz w (mStmt ws F (f + 1) i)) := by
 have hil := isW_lt h1
 rw [show mStmt ws F (f + 1) i = wantK ws (i + 1) 1 (want ws (i + 2) ⟨#[102, 114, 111, 109]⟩ ((mExpr ws F (i + 3)).then_ (fun x j => want ws j ⟨#[116, 111]⟩ ((mExpr ws F (j + 1)).then_ fun y j2 => (mBlock ws F f j2).then_ fun z j3 => .ok (.node 26 (textW ws (i + 1)) 0 [x, y, z]) j3)))) by simp only [mStmt]; rw [if_neg (by rw [n0]; decide), if_neg (by rw [n1]; decide), if_pos h1]]
 have ht := he.text (i + 1)
 have hfew := he.few
 by_cases h2 : kindW ws (i + 1) = 1
 ·by_cases h3 : isW ws (i + 2) ⟨#[102, 114, 111, 109]⟩ = true
  ·rw [show wantK ws (i + 1) 1 (want ws (i + 2) ⟨#[102, 114, 111, 109]⟩ ((mExpr ws F (i + 3)).then_ (fun x j => want ws j ⟨#[116, 111]⟩ ((mExpr ws F (j + 1)).then_ fun y j2 => (mBlock ws F f j2).then_ fun z j3 => .ok (.node 26 (textW ws (i + 1)) 0 [x, y, z]) j3)))) = (mExpr ws F (i + 3)).then_ (fun x j => want ws j ⟨#[116, 111]⟩ ((mExpr ws F (j + 1)).then_ fun y j2 => (mBlock ws F f j2).then_ fun z j3 => .ok (.node 26 (textW ws (i + 1)) 0 [x, y, z]) j3)) by unfold wantK want; rw [if_pos h2, if_pos h3]]
   have HA := mkHid h
   have hrb := h.lt
   have hi2 := isW_lt h3
   have hO1 := fun w h => hE (i + 3) w (by omega) h
   have ha := (adv ws F).2.2.2.1 (i + 3)
   generalize mExpr ws F (i + 3) = r at hO1 ha ⊢
   have H1 := mkHid hO1
   have HE := mkHid hE
   have HB := mkHid hB
   generalize hR : r.then_ (fun x j => want ws j ⟨#[116, 111]⟩ ((mExpr ws F (j + 1)).then_ fun y j2 => (mBlock ws F f j2).then_ fun z j3 => .ok (.node 26 (textW ws (i + 1)) 0 [x, y, z]) j3)) = R
   have HR := mkHid hR
   clear hR hO1 hE hB
   obtain ⟨i0, hi0, hz0⟩ := Option.map_eq_some_iff.1 Tryz.info26
   simp only [Prod.mk.injEq] at hz0
   obtain ⟨hz1, hz2, hz3⟩ := hz0
   have HI := mkHid (show Tryz.prog.info? 26 = some i0 ∧ i0.zero = some (.agg #[.int .i64 0, .string ByteArray.empty, .int .i64 0, .slice none 0 0]) ∧ i0.size = 4 ∧ i0.bytes = 56 from ⟨hi0, hz1, hz2, hz3⟩)
   clear hi0 hz1 hz2 hz3
   have C0 := mkHid (fun w h => has_no rb a cap ws i sz ⟨#[105, 102]⟩ w h n0)
   have C1 := mkHid (fun w h => has_no rb a cap ws i sz ⟨#[119, 104, 105, 108, 101]⟩ w h n1)
   have C2 := mkHid (fun w h => has_yes rb a cap ws i sz ⟨#[102, 111, 114]⟩ w h h1)
   have C3 := mkHid (fun w h => name_yes rb a cap ws (i + 1) sz w h h2)
   have C4 := mkHid (fun w h => take_yes rb a cap ws (i + 2) sz ⟨#[102, 114, 111, 109]⟩ w h h3)
   clear h h1 h2 h3 he n0 n1
   go_enter Tryz.func73, Tryz.ntmps73
   go_wp2_with fail
   refine (C0.out _ (HA.out.alloc _)).mono ?_
   rintro e w1 ⟨rfl, r, s⟩
   have R1 := mkHid r
   have S1 := mkHid (((Step.refl rb w).alloc _).trans s)
   have P1 := mkHid (s.at (heap_alloc_new w _) (by omega))
   clear r s
   go_wp2_with fail
   refine (C1.out _ R1.out).mono ?_
   rintro e w2 ⟨rfl, r, s⟩
   have R2 := mkHid r
   have S2 := mkHid (S1.out.trans s)
   have P2 := mkHid (s.at P1.out (by omega))
   clear r s
   go_wp2_with fail
   refine (C2.out _ R2.out).mono ?_
   rintro e w3 ⟨rfl, r, s⟩
   have R3 := mkHid r
   have S3 := mkHid (S2.out.trans s)
   have P3 := mkHid (s.at P2.out (by omega))
   clear r s
   go_wp2_with fail
   refine (C3.out _ R3.out).mono ?_
   rintro e w4 ⟨rfl, r, s⟩
   have R4 := mkHid r
   have S4 := mkHid (S3.out.trans s)
   have P4 := mkHid (s.at P3.out (by omega))
   clear r s
   go_wp2_with fail
   refine (C4.out _ (R4.out.alloc _)).mono ?_
   rintro e w5 ⟨rfl, r, s⟩
   have R5 := mkHid r
   have S5 := mkHid ((S4.out.alloc _).trans s)
   have P5 := mkHid (s.at ((Lib.alloc_old w4 _ _ (Array.getElem?_eq_some_iff.1 P4.out).1).trans P4.out) (by omega))
   have L5 := mkHid (s.at (heap_alloc_new w4 _) (by have := R4.out.lt; omega))
   have gl : rb < w4.heap.size := R4.out.lt
   clear r s
   have z4 : w.heap.size < w4.heap.size := (Array.getElem?_eq_some_iff.1 P4.out).1
   obtain ⟨els, sa, sc, hels, hG⟩ : ∃ (els : List A) (sa : Option Addr) (sc : Nat), els = [] ∧ Stem rb a cap ws sz w w4.heap.size 26 (textW ws (i + 1)) w5 els sa sc (i + 3) := ⟨[], none, 0, rfl, Stem.base L5.out P5.out R5.out S5.out z4 hrb⟩
   have hle : els.length ≤ 1 := by rw [hels]; decide
   have G2 := mkHid hG
   have HEL := mkHid hels
   clear hG hels
   obtain ⟨d0, d1, d2, d3, e0, e1, e2, e3⟩ := four_of G2.out.here
   have hp2 := G2.out.plt
   cases r with
   | no p =>
     go_wp2
     refine wp_region_any (by kernel_rfl) ?_
     change wpAny _ _ _ _ _ _ _ (World.drew _)
     refine wpAny_take (i := 0) (v := ?_) rfl (by kernel_rfl) (by kernel_rfl) (by kernel_rfl) (fun _ _ _ h => h) (Or.inl ⟨by rfl, ?_⟩) ?_
     rotate_left 1
     ·intro w; go_simp; try with_reducible rfl
     refine wpAny_take (i := 2) (v := ?_) rfl (by kernel_rfl) (by kernel_rfl) (by kernel_rfl) (fun _ _ _ h => h) (Or.inl ⟨by rfl, ?_⟩) ?_
     rotate_left 1
     ·intro w; go_simp; try with_reducible rfl
     refine wpAny_ready (rs := [1, 3]) (by kernel_rfl) (by simp) ?_
     refine AllReady.cons rfl (fun K hK => ?_) ?_
     ·go_simp
      refine hK _ _ ?_
      clear hK K
      refine wpAny_ready (rs := [3]) (by kernel_rfl) (by simp) ?_
      refine AllReady.cons rfl (fun K hK => ?_) AllReady.nil
      go_simp
      refine (H1.out _ G2.out.rd.drew).mono ?_
      rintro e w3 ⟨⟨m, rfl⟩, r3, s3⟩
      exact ⟨rfl, by rw [← HR.out]; exact ⟨⟨m, rfl⟩, r3, G2.out.step.drew.trans s3⟩⟩
     ·refine AllReady.cons rfl (fun K hK => ?_) AllReady.nil
      go_simp
      refine (H1.out _ G2.out.rd.drew).mono ?_
      rintro e w3 ⟨⟨m, rfl⟩, r3, s3⟩
      exact ⟨rfl, by rw [← HR.out]; exact ⟨⟨m, rfl⟩, r3, G2.out.step.drew.trans s3⟩⟩
   | ok y j3 =>
     obtain ⟨hj3, hj3l⟩ := ha y j3 rfl
     clear ha
     go_wp2
     go_region_law (first | (go_simp; go_at_call 103; refine (H1.out _ G2.out.rd.drew).mono ?_; rintro e w38 ⟨z, rfl, hz3, hsz, hnz, r3, s3⟩; obtain ⟨zk8, zs8, zm8, za8, zc8, zkk8⟩ := z; simp only [A.val]; have T3 := G2.out.drew.on s3 r3; obtain ⟨b0, b1, b2, b3, g0, g1, g2, g3⟩ := four_of T3.here; have hp38 := T3.plt; have OW := mkHid (T3.own.alloc (.cells #[.int .i64 zk8, .string zs8, .int .i64 zm8, .slice za8 zkk8.length zc8] 26)); have HT3 := mkHid T3; have HS3 := mkHid s3; have HZ8 := mkHid hz3; have HSZ := mkHid hsz; have HNZ := mkHid hnz; have HR3 := mkHid r3; clear T3 s3 hz3 hsz hnz r3) | (refine step_append_lies _ (by rfl) _ _ _ (by rfl) (w4.heap.size + 1) 26 i0 _ 4 56 Tryz.underlying24 HI.out.1 HI.out.2.1 HI.out.2.2.1 HI.out.2.2.2 rfl (by decide) _ _ _ (by rfl) OW.out ⟨w38.heap.size, 0, none⟩ 1 1 [.int .i64 zk8, .string zs8, .int .i64 zm8, .slice za8 zkk8.length zc8] (by rfl) (by rfl) (World.news_of_block (heap_alloc_new w38 _)) (fun u hu => by simp at hu; rcases hu with rfl | rfl | rfl | rfl <;> rfl) (by decide) (by unfold maxLen; omega) (by omega) (by simp; omega) (w38.heap.size + 1) (by simp) ?_; intro g8 cq8 w48 hown hgrow hat hlt4; have GP8 := mkHid (Stem.push (x := .node zk8 zs8 zm8 za8 zc8 zkk8) G2.out.drew HS3.out HR3.out HSZ.out HNZ.out _ hown hgrow hat); have K4 := (hgrow.block w4.heap.size (by simp; omega) (fun e => absurd (OW.out.lt _ e.symm).1 (Nat.not_succ_le_self _))).trans ((Lib.alloc_old w38 _ _ hp38).trans HT3.out.here); clear b0 b1 b2 b3 g0 g1 g2 g3; obtain ⟨l0, l1, l2, l3, m0, m1, m2, m3⟩ := four_of K4; clear K4 hown hgrow hat OW HS3 HSZ HNZ HR3))
     all_goals
         clear HT3
         by_cases h4 : isW ws j3 ⟨#[116, 111]⟩ = true
         ·have T8 := mkHid (fun w h => take_yes rb a cap ws j3 sz ⟨#[116, 111]⟩ w h h4)
          have hj4 := isW_lt h4
          have hO2 := fun w h => HE.out (j3 + 1) w (by omega) h
          have ha2 := (adv ws F).2.2.2.1 (j3 + 1)
          have HR2 : Hid ((mExpr ws F (j3 + 1)).then_ (fun y9 j2 => (mBlock ws F f j2).then_ fun z j3 => .ok (.node 26 (textW ws (i + 1)) 0 [y, y9, z]) j3) = R) := by
           show _ = _
           rw [← HR.out]
           simp only [Res.then_, want]
           rw [if_pos h4]
          clear HR h4
          generalize mExpr ws F (j3 + 1) = r2 at hO2 HR2 ha2
          have H2 := mkHid hO2
          clear hO2
          go_wp2_with fail
          refine (T8.out _ GP8.out.rd).mono ?_
          rintro e w9 ⟨rfl, r9, s9⟩
          have G9 := mkHid (GP8.out.on s9 r9)
          clear r9 s9 l0 l1 l2 l3 m0 m1 m2 m3
          obtain ⟨els9, sa9, sc9, hel9, hG9⟩ : ∃ (els9 : List A) (sa9 : Option Addr) (sc9 : Nat), els9 = els ++ [.node zk8 zs8 zm8 za8 zc8 zkk8] ∧ Stem rb a cap ws sz w w4.heap.size 26 (textW ws (i + 1)) w9 els9 sa9 sc9 (j3 + 1) := ⟨_, _, _, rfl, G9.out⟩
          have hle9 : els9.length ≤ 2 := by rw [hel9]; simp; omega
          have HEL9 := mkHid hel9
          have GA := mkHid hG9
          clear hel9 hG9 G9 GP8 H1 T8 HE d0 d1 d2 d3 e0 e1 e2 e3
          obtain ⟨d0, d1, d2, d3, e0, e1, e2, e3⟩ := four_of GA.out.here
          have hp9 := GA.out.plt
          cases r2 with
          | no p =>
            go_wp2
            refine wp_region_any (by kernel_rfl) ?_
            change wpAny _ _ _ _ _ _ _ (World.drew _)
            refine wpAny_take (i := 0) (v := ?_) rfl (by kernel_rfl) (by kernel_rfl) (by kernel_rfl) (fun _ _ _ h => h) (Or.inl ⟨by rfl, ?_⟩) ?_
            rotate_left 1
            ·intro w; go_simp; try with_reducible rfl
            refine wpAny_take (i := 2) (v := ?_) rfl (by kernel_rfl) (by kernel_rfl) (by kernel_rfl) (fun _ _ _ h => h) (Or.inl ⟨by rfl, ?_⟩) ?_
            rotate_left 1
            ·intro w; go_simp; try with_reducible rfl
            refine wpAny_take (i := 4) (v := ?_) rfl (by kernel_rfl) (by kernel_rfl) (by kernel_rfl) (fun _ _ _ h => h) (Or.inl ⟨by rfl, ?_⟩) ?_
            rotate_left 1
            ·intro w; go_simp; try with_reducible rfl
            refine wpAny_ready (rs := [1, 3]) (by kernel_rfl) (by simp) ?_
            refine AllReady.cons rfl (fun K hK => ?_) ?_
            ·go_simp
             refine hK _ _ ?_
             clear hK K
             refine wpAny_ready (rs := [3]) (by kernel_rfl) (by simp) ?_
             refine AllReady.cons rfl (fun K hK => ?_) AllReady.nil
             go_simp
             refine (H2.out _ GA.out.rd.drew).mono ?_
             rintro e w3 ⟨⟨m, rfl⟩, r3, s3⟩
             exact ⟨rfl, by rw [← HR2.out]; exact ⟨⟨m, rfl⟩, r3, GA.out.step.drew.trans s3⟩⟩
            ·refine AllReady.cons rfl (fun K hK => ?_) AllReady.nil
             go_simp
             refine (H2.out _ GA.out.rd.drew).mono ?_
             rintro e w3 ⟨⟨m, rfl⟩, r3, s3⟩
             exact ⟨rfl, by rw [← HR2.out]; exact ⟨⟨m, rfl⟩, r3, GA.out.step.drew.trans s3⟩⟩
          | ok y9 j9 =>
            obtain ⟨hj9, hj9l⟩ := ha2 y9 j9 rfl
            clear ha2
            have HR3 : Hid ((mBlock ws F f j9).then_ (fun z j3 => .ok (.node 26 (textW ws (i + 1)) 0 [y, y9, z]) j3) = R) := HR2.out
            have hO3 := fun w h => HB.out j9 w (by omega) h
            generalize mBlock ws F f j9 = r3 at hO3 HR3
            have H3 := mkHid hO3
            clear hO3 HR2
            cases r3 with
            | no p =>
              go_wp2
              refine wp_region_any (by kernel_rfl) ?_
              change wpAny _ _ _ _ _ _ _ (World.drew _)
              refine wpAny_take (i := 0) (v := ?_) rfl (by kernel_rfl) (by kernel_rfl) (by kernel_rfl) (fun _ _ _ h => h) (Or.inl ⟨by rfl, ?_⟩) ?_
              rotate_left 1
              ·intro w; go_simp; try with_reducible rfl
              refine wpAny_take (i := 2) (v := ?_) rfl (by kernel_rfl) (by kernel_rfl) (by kernel_rfl) (fun _ _ _ h => h) (Or.inl ⟨by rfl, ?_⟩) ?_
              rotate_left 1
              ·intro w; go_simp; try with_reducible rfl
              refine wpAny_take (i := 4) (v := ?_) rfl (by kernel_rfl) (by kernel_rfl) (by kernel_rfl) (fun _ _ _ h => h) (Or.inl ⟨by rfl, ?_⟩) ?_
              rotate_left 1
              ·intro w; go_simp; try with_reducible rfl
              refine wpAny_ready (rs := [1, 3]) (by kernel_rfl) (by simp) ?_
              refine AllReady.cons rfl (fun K hK => ?_) ?_
              ·go_simp
               refine hK _ _ ?_
               clear hK K
               refine wpAny_ready (rs := [3]) (by kernel_rfl) (by simp) ?_
               refine AllReady.cons rfl (fun K hK => ?_) AllReady.nil
               go_simp
               refine (H2.out _ GA.out.rd.drew).mono ?_
               rintro e w3 ⟨z, rfl, hz3, hsz, hnz, r3, s3⟩
               obtain ⟨zk, zs, zm, za, zc, zkk⟩ := z
               simp only [A.val]
               have T3 := GA.out.drew.on s3 r3
               obtain ⟨b0, b1, b2, b3, _⟩ := four_of T3.here
               have TT := mkHid T3
               clear T3 hz3 hsz hnz r3 s3
               refine hK _ _ ?_
               clear hK K
               refine wpAny_ready (rs := [5]) (by kernel_rfl) (by simp) ?_
               refine AllReady.cons rfl (fun K hK => ?_) AllReady.nil
               go_simp
               refine (H3.out _ TT.out.rd).mono ?_
               rintro e w5 ⟨⟨m, rfl⟩, r5, s5⟩
               exact ⟨rfl, by rw [← HR3.out]; exact ⟨⟨m, rfl⟩, r5, TT.out.step.trans s5⟩⟩
              ·refine AllReady.cons rfl (fun K hK => ?_) AllReady.nil
               go_simp
               refine (H2.out _ GA.out.rd.drew).mono ?_
               rintro e w3 ⟨z, rfl, hz3, hsz, hnz, r3, s3⟩
               obtain ⟨zk, zs, zm, za, zc, zkk⟩ := z
               simp only [A.val]
               have T3 := GA.out.drew.on s3 r3
               obtain ⟨b0, b1, b2, b3, _⟩ := four_of T3.here
               have TT := mkHid T3
               clear T3 hz3 hsz hnz r3 s3
               refine hK _ _ ?_
               clear hK K
               refine wpAny_ready (rs := [1, 5]) (by kernel_rfl) (by simp) ?_
               refine AllReady.cons rfl (fun K hK => ?_) ?_
               ·go_simp
                refine hK _ _ ?_
                clear hK K
                refine wpAny_ready (rs := [5]) (by kernel_rfl) (by simp) ?_
                refine AllReady.cons rfl (fun K hK => ?_) AllReady.nil
                go_simp
                refine (H3.out _ TT.out.rd).mono ?_
                rintro e w5 ⟨⟨m, rfl⟩, r5, s5⟩
                exact ⟨rfl, by rw [← HR3.out]; exact ⟨⟨m, rfl⟩, r5, TT.out.step.trans s5⟩⟩
               ·refine AllReady.cons rfl (fun K hK => ?_) AllReady.nil
                go_simp
                refine (H3.out _ TT.out.rd).mono ?_
                rintro e w5 ⟨⟨m, rfl⟩, r5, s5⟩
                exact ⟨rfl, by rw [← HR3.out]; exact ⟨⟨m, rfl⟩, r5, TT.out.step.trans s5⟩⟩
            | ok t10 j10 =>
              go_wp2
              go_region_law (first | (go_simp; go_at_call 103; refine (H2.out _ GA.out.rd.drew).mono ?_; rintro e w39 ⟨z, rfl, hz3, hsz, hnz, r3, s3⟩; obtain ⟨zk9, zs9, zm9, za9, zc9, zkk9⟩ := z; simp only [A.val]; have T3 := GA.out.drew.on s3 r3; obtain ⟨b0, b1, b2, b3, g0, g1, g2, g3⟩ := four_of T3.here; have hp39 := T3.plt; have HT3 := mkHid T3; have HS3 := mkHid s3; have HZ9 := mkHid hz3; have HSZ := mkHid hsz; have HNZ := mkHid hnz; have HR3' := mkHid r3; clear T3 s3 hz3 hsz hnz r3) | (go_simp; go_at_call 102; refine (H3.out _ HR3'.out).mono ?_; rintro e w49 ⟨z, rfl, hz4, hsz4, hnz4, r4, s4⟩; have lz := Sits.lt _ HSZ.out; have T4 := HT3.out.on s4 r4; have SY := s4.sits HSZ.out (fun q hq => (by have h1 := HNZ.out.2 q hq; have h2 := GA.out.rlt; have h3 := GA.out.lt; simp at h1; omega)); have NY := mkHid (NewL.snoc (xs := [A.node zk9 zs9 zm9 za9 zc9 zkk9]) (n1 := w39.heap.size) (NewL.one HNZ.out) (fun b hb => lz b (by rwa [feet_one] at hb)) hnz4 HS3.out.size); obtain ⟨yk9, ys9, ym9, ya9, yc9, ykk9⟩ := z; simp only [A.val]; clear b0 b1 b2 b3 g0 g1 g2 g3; obtain ⟨b0, b1, b2, b3, g0, g1, g2, g3⟩ := four_of T4.here; have hp49 := T4.plt; have OW := mkHid (T4.own.alloc (.cells #[.int .i64 zk9, .string zs9, .int .i64 zm9, .slice za9 zkk9.length zc9, .int .i64 yk9, .string ys9, .int .i64 ym9, .slice ya9 ykk9.length yc9] 26)); have HT4 := mkHid T4; have HS4 := mkHid (HS3.out.trans s4); have HY9 := mkHid hz4; have HSY := mkHid (show SitsL w49 [A.node zk9 zs9 zm9 za9 zc9 zkk9, .node yk9 ys9 ym9 ya9 yc9 ykk9] from ⟨SY, hsz4, trivial⟩); have HR4 := mkHid r4; clear T4 s4 hz4 hsz4 hnz4 r4 SY lz) | (refine step_append_lies _ (by rfl) _ _ _ (by rfl) (w4.heap.size + 1) 26 i0 _ 4 56 Tryz.underlying24 HI.out.1 HI.out.2.1 HI.out.2.2.1 HI.out.2.2.2 rfl (by decide) _ _ _ (by rfl) OW.out ⟨w49.heap.size, 0, none⟩ 2 2 [.int .i64 zk9, .string zs9, .int .i64 zm9, .slice za9 zkk9.length zc9, .int .i64 yk9, .string ys9, .int .i64 ym9, .slice ya9 ykk9.length yc9] (by rfl) (by rfl) (World.news_of_block (heap_alloc_new w49 _)) (fun u hu => by simp at hu; rcases hu with rfl | rfl | rfl | rfl | rfl | rfl | rfl | rfl <;> rfl) (by decide) (by unfold maxLen; omega) (by omega) (by simp; omega) (w49.heap.size + 1) (by simp) ?_; intro g9 cq9 w59 hown hgrow hat hlt4; have GP9 := mkHid (Stem.pushL (x := [.node zk9 zs9 zm9 za9 zc9 zkk9, .node yk9 ys9 ym9 ya9 yc9 ykk9]) (n2 := 2) rfl GA.out.drew HS4.out HR4.out HSY.out NY.out _ hown hgrow hat); have K4 := (hgrow.block w4.heap.size (by simp; omega) (fun e => absurd (OW.out.lt _ e.symm).1 (Nat.not_succ_le_self _))).trans ((Lib.alloc_old w49 _ _ hp49).trans HT4.out.here); clear b0 b1 b2 b3 g0 g1 g2 g3; obtain ⟨l0, l1, l2, l3, m0, m1, m2, m3⟩ := four_of K4; clear K4 hown hgrow hat OW))
              all_goals
                  have PR := GP9.out.rest
                  obtain ⟨c0, c1, c2, c3, f0, f1, f2, f3⟩ := four_of PR
                  have hpp := GA.out.lt
                  go_wp2
                  obtain ⟨q0, q1, q2, q3⟩ := put4_cells0 GP9.out.res (.int .i64 26) (.string (textW ws (i + 1))) (.int .i64 0) (.slice (some ⟨g9, 0, none⟩) (els9.length + 2) cq9)
                  obtain ⟨t1, t2⟩ := GP9.out.tree ht (by simp; unfold maxLen; omega)
                  refine bodyPost_ret (v := (A.node 26 (textW ws (i + 1)) 0 (some ⟨g9, 0, none⟩) cq9 (els9 ++ [.node zk9 zs9 zm9 za9 zc9 zkk9, .node yk9 ys9 ym9 ya9 yc9 ykk9])).val) (by simp [results, Tryz.results73, go_sem, q0, q1, q2, q3, A.val]) rfl ?_
                  rw [← HR3.out]
                  exact end_tree _ _ _ _ _ GP9.out.rd hrb GP9.out.step (by simp only [A.erase]; rw [HEL9.out, HEL.out]; simp only [List.nil_append, List.cons_append, erases]; rw [HZ8.out, HZ9.out, HY9.out]) t1 t2 (by omega)
         ·have T8 := mkHid (fun w h => take_no rb a cap ws j3 sz ⟨#[116, 111]⟩ w h (by simpa using h4))
          have HR2 : Hid (R = .no j3) := by
           show _ = _
           rw [← HR.out]
           simp only [Res.then_, want]
           rw [if_neg h4]
          clear HR h4
          go_wp2_with fail
          refine (T8.out _ GP8.out.rd).mono ?_
          rintro e w9 ⟨⟨m, rfl⟩, r9, s9⟩
          exact ⟨rfl, by rw [HR2.out]; exact ⟨⟨m, rfl⟩, r9, GP8.out.step.trans s9⟩⟩
  ·rw [show wantK ws (i + 1) 1 (want ws (i + 2) ⟨#[102, 114, 111, 109]⟩ ((mExpr ws F (i + 3)).then_ (fun x j => want ws j ⟨#[116, 111]⟩ ((mExpr ws F (j + 1)).then_ fun y j2 => (mBlock ws F f j2).then_ fun z j3 => .ok (.node 26 (textW ws (i + 1)) 0 [x, y, z]) j3)))) = .no (i + 2) by unfold wantK want; rw [if_pos h2, if_neg h3]]
   have HA := mkHid h
   have hrb := h.lt
   have C0 := mkHid (fun w h => has_no rb a cap ws i sz ⟨#[105, 102]⟩ w h n0)
   have C1 := mkHid (fun w h => has_no rb a cap ws i sz ⟨#[119, 104, 105, 108, 101]⟩ w h n1)
   have C2 := mkHid (fun w h => has_yes rb a cap ws i sz ⟨#[102, 111, 114]⟩ w h h1)
   have C3 := mkHid (fun w h => name_yes rb a cap ws (i + 1) sz w h h2)
   have C4 := mkHid (fun w h => take_no rb a cap ws (i + 2) sz ⟨#[102, 114, 111, 109]⟩ w h (by simpa using h3))
   clear h h1 h2 h3 he n0 n1 hE hB
   go_enter Tryz.func73, Tryz.ntmps73
   go_wp2_with fail
   refine (C0.out _ (HA.out.alloc _)).mono ?_
   rintro e w1 ⟨rfl, r, s⟩
   have R1 := mkHid r
   have S1 := mkHid (((Step.refl rb w).alloc _).trans s)
   have P1 := mkHid (s.at (heap_alloc_new w _) (by omega))
   clear r s
   go_wp2_with fail
   refine (C1.out _ R1.out).mono ?_
   rintro e w2 ⟨rfl, r, s⟩
   have R2 := mkHid r
   have S2 := mkHid (S1.out.trans s)
   have P2 := mkHid (s.at P1.out (by omega))
   clear r s
   go_wp2_with fail
   refine (C2.out _ R2.out).mono ?_
   rintro e w3 ⟨rfl, r, s⟩
   have R3 := mkHid r
   have S3 := mkHid (S2.out.trans s)
   have P3 := mkHid (s.at P2.out (by omega))
   clear r s
   go_wp2_with fail
   refine (C3.out _ R3.out).mono ?_
   rintro e w4 ⟨rfl, r, s⟩
   have R4 := mkHid r
   have S4 := mkHid (S3.out.trans s)
   have P4 := mkHid (s.at P3.out (by omega))
   clear r s
   go_wp2_with fail
   refine (C4.out _ (R4.out.alloc _)).mono ?_
   rintro e w5 ⟨⟨m, rfl⟩, r, s⟩
   exact ⟨rfl, ⟨m, rfl⟩, r, (S4.out.alloc _).trans s⟩
 ·rw [show wantK ws (i + 1) 1 (want ws (i + 2) ⟨#[102, 114, 111, 109]⟩ ((mExpr ws F (i + 3)).then_ (fun x j => want ws j ⟨#[116, 111]⟩ ((mExpr ws F (j + 1)).then_ fun y j2 => (mBlock ws F f j2).then_ fun z j3 => .ok (.node 26 (textW ws (i + 1)) 0 [x, y, z]) j3)))) = .no (i + 1) by unfold wantK; rw [if_neg h2]]
  have HA := mkHid h
  have hrb := h.lt
  have C0 := mkHid (fun w h => has_no rb a cap ws i sz ⟨#[105, 102]⟩ w h n0)
  have C1 := mkHid (fun w h => has_no rb a cap ws i sz ⟨#[119, 104, 105, 108, 101]⟩ w h n1)
  have C2 := mkHid (fun w h => has_yes rb a cap ws i sz ⟨#[102, 111, 114]⟩ w h h1)
  have C3 := mkHid (fun w h => name_no rb a cap ws (i + 1) sz w h h2)
  clear h h1 h2 he n0 n1 hE hB
  go_enter Tryz.func73, Tryz.ntmps73
  go_wp2_with fail
  refine (C0.out _ (HA.out.alloc _)).mono ?_
  rintro e w1 ⟨rfl, r, s⟩
  have R1 := mkHid r
  have S1 := mkHid (((Step.refl rb w).alloc _).trans s)
  have P1 := mkHid (s.at (heap_alloc_new w _) (by omega))
  clear r s
  go_wp2_with fail
  refine (C1.out _ R1.out).mono ?_
  rintro e w2 ⟨rfl, r, s⟩
  have R2 := mkHid r
  have S2 := mkHid (S1.out.trans s)
  have P2 := mkHid (s.at P1.out (by omega))
  clear r s
  go_wp2_with fail
  refine (C2.out _ R2.out).mono ?_
  rintro e w3 ⟨rfl, r, s⟩
  have R3 := mkHid r
  have S3 := mkHid (S2.out.trans s)
  have P3 := mkHid (s.at P2.out (by omega))
  clear r s
  go_wp2_with fail
  refine (C3.out _ R3.out).mono ?_
  rintro e w4 ⟨⟨m, rfl⟩, r, s⟩
  exact ⟨rfl, ⟨m, rfl⟩, r, S3.out.trans s⟩
end Go.Proofs.YtjmjmdmnejnlbaaGreatDoor
