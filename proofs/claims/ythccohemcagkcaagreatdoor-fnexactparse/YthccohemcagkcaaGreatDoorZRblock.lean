/-
  CONTRACT of the program's reader's block.
-/
import Derived.Test.YthccohemcagkcaaGreatDoorGj
import Derived.Deep.RegionLaw
import Derived.Deep.AppendLies
namespace Go.Proofs.YthccohemcagkcaaGreatDoor
open Go.RowKit
open Pl

def IStmt (rb : Nat) (a : Option Addr) (cap : Nat) (ws : List W3) (sz : Nat) (F f : Nat) : Prop := ∀ (i : Nat) (w : World), 3 * (ws.length - i) + 1 ≤ f → Rd w rb a cap ws i sz →
  Calls Tryz.prog 80 #[.pointer (some ⟨rb, 0, none⟩)] w (Post rb a cap ws sz w (mStmt ws F f i))
def IBlock (rb : Nat) (a : Option Addr) (cap : Nat) (ws : List W3) (sz : Nat) (F f : Nat) : Prop := ∀ (i : Nat) (w : World), 3 * (ws.length - i) + 2 ≤ f → Rd w rb a cap ws i sz →
  Calls Tryz.prog 130 #[.pointer (some ⟨rb, 0, none⟩)] w (Post rb a cap ws sz w (mBlock ws F f i))
set_option maxRecDepth 100000 in
set_option maxHeartbeats 8000000 in
theorem block_step {rb : Nat} {a : Option Addr} {cap : Nat} {ws : List W3} {sz F f : Nat} (he : Env ws) (hS : ∀ g, g ≤ f → IStmt rb a cap ws sz F g) : IBlock rb a cap ws sz F (f + 1) := by
  intro i w hf h
  have hfew := he.few
  have HA := mkHid h
  have hrb := h.lt
  have HO := mkHid hS
  by_cases h0 : isW ws i ⟨#[123]⟩ = true
  · have hil := isW_lt h0
    rw [show mBlock ws F (f + 1) i = mList ws F f [] (i + 1) by simp only [mBlock, want]; rw [if_pos h0]]
    generalize hR : mList ws F f [] (i + 1) = R
    have HR := mkHid hR
    have T0 := mkHid (fun w h => take_yes rb a cap ws i sz ⟨#[123]⟩ w h h0)
    clear hR h hS h0 he
    obtain ⟨i0, hi0, hz0⟩ := Option.map_eq_some_iff.1 Tryz.info26
    simp only [Prod.mk.injEq] at hz0
    obtain ⟨hz1, hz2, hz3⟩ := hz0
    have HI := mkHid (show Tryz.prog.info? 26 = some i0 ∧ i0.zero = some (.agg #[.int .i64 0, .string ByteArray.empty, .int .i64 0, .slice none 0 0]) ∧ i0.size = 4 ∧ i0.bytes = 56 from ⟨hi0, hz1, hz2, hz3⟩)
    clear hi0 hz1 hz2 hz3
    go_enter Tryz.func130, Tryz.ntmps130
    go_wp2_with fail
    refine (T0.out _ (HA.out.alloc _)).mono ?_
    rintro e w1 ⟨rfl, r1, s1⟩
    have hG := Stem.start (s1.at (heap_alloc_new w _) (by omega)) r1 (((Step.refl rb w).alloc _).trans s1) hrb 30 ⟨#[]⟩
    have HG := mkHid hG
    clear hG r1 s1 T0 HA
    go_wp2
    go_loopw [] (fun w' => ∃ (els : List A) (sa : Option Addr) (sc j g : Nat), Stem rb a cap ws sz w w1.heap.size 30 ⟨#[]⟩ w' els sa sc j ∧ g ≤ f ∧ 3 * (ws.length - j) + 2 ≤ g ∧ els.length ≤ j ∧ j ≤ ws.length ∧ mList ws F g (erases els) j = R) (fun w' => ws.length - posOf rb w')
    case atStart => exact ⟨[], none, 0, i + 1, f, HG.out, Nat.le_refl _, by omega, Nat.zero_le _, by omega, HR.out⟩
    case round =>
      obtain ⟨els, sa, sc, j, g, hG, hgf, hfu, hej, hjl, hm⟩ := hrel
      have G0 := mkHid hG
      have M0 := mkHid hm
      have hpos := hG.rd.pos
      have HPo := mkHid hpos
      clear hG hm hpos HG HR
      obtain ⟨g1, rfl⟩ : ∃ g1, g = g1 + 1 := ⟨g - 1, by omega⟩
      by_cases hw : isW ws j ⟨#[125]⟩ = true
      · have HR : Hid (R = .ok (.node 30 nil_ 0 (erases els)) (j + 1)) := by
          have := M0.out
          simp only [mList] at this
          rw [if_pos hw] at this
          exact this.symm
        have T1 := mkHid (fun w h => has_yes rb a cap ws j sz ⟨#[125]⟩ w h hw)
        clear M0 hw
        go_wp2_with fail
        refine (T1.out _ G0.out.rd).mono ?_
        rintro e w2 ⟨rfl, r2, s2⟩
        have G2 := mkHid (G0.out.on s2 r2)
        clear r2 s2 T1
        obtain ⟨d0, d1, d2, d3, _⟩ := four_of G2.out.here
        obtain ⟨c0, c1, c2, c3, f0, f1, f2, f3⟩ := four_of G2.out.res
        go_wp2
        obtain ⟨q0, q1, q2, q3⟩ := put4_cells0 G2.out.res (.int .i64 30) (.string ⟨#[]⟩) (.int .i64 0) (.slice sa els.length sc)
        obtain ⟨t1, t2⟩ := G2.out.tree (by decide) (by unfold maxLen; omega)
        exact bodyPost_ret (v := (A.node 30 ⟨#[]⟩ 0 sa sc els).val) (by simp [results, Tryz.results130, go_sem, q0, q1, q2, q3, A.val]) rfl (by rw [HR.out]; exact end_tree _ _ _ _ _ G2.out.rd hrb G2.out.step (by simp only [A.erase]; rfl) t1 t2 (by omega))
      · have hm : (mStmt ws F g1 j).then_ (fun x j => mList ws F g1 (erases els ++ [x]) j) = R := by
          have := M0.out
          simp only [mList] at this
          rw [if_neg hw] at this
          exact this
        have hO1 := fun w h => HO.out g1 (by omega) j w (by omega) h
        have ha := (advS ws F g1).1 j
        have T1 := mkHid (fun w h => has_no rb a cap ws j sz ⟨#[125]⟩ w h (by simpa using hw))
        generalize mStmt ws F g1 j = r at hm hO1 ha
        have H1 := mkHid hO1
        clear hO1 M0 hw
        go_wp2_with fail
        refine (T1.out _ G0.out.rd).mono ?_
        rintro e w2 ⟨rfl, r2, s2⟩
        have G2 := mkHid (G0.out.on s2 r2)
        clear r2 s2 T1
        obtain ⟨d0, d1, d2, d3, e0, e1, e2, e3⟩ := four_of G2.out.here
        have hp2 := G2.out.plt
        cases r with
        | no p =>
          have HR : Hid (R = .no p) := hm.symm
          clear hm ha
          go_wp2
          refine wp_region_any (by kernel_rfl) ?_
          change wpAny _ _ _ _ _ _ _ (World.drew _)
          refine wpAny_take (i := 0) (v := ?v1) rfl (by kernel_rfl) (by kernel_rfl) (by kernel_rfl) (fun _ _ _ h => h) (Or.inl ⟨by rfl, ?hy1⟩) ?rest1
          case hy1 => intro w; go_simp; try with_reducible rfl
          refine wpAny_take (i := 2) (v := ?v2) rfl (by kernel_rfl) (by kernel_rfl) (by kernel_rfl) (fun _ _ _ h => h) (Or.inl ⟨by rfl, ?hy2⟩) ?rest2
          case hy2 => intro w; go_simp; try with_reducible rfl
          refine wpAny_ready (rs := [1, 3]) (by kernel_rfl) (by simp) ?_
          refine AllReady.cons rfl (fun K hK => ?_) ?_
          · go_simp
            refine hK _ _ ?_
            clear hK K
            refine wpAny_ready (rs := [3]) (by kernel_rfl) (by simp) ?_
            refine AllReady.cons rfl (fun K hK => ?_) AllReady.nil
            go_simp
            refine (H1.out _ G2.out.rd.drew).mono ?_
            rintro e w3 ⟨⟨m, rfl⟩, r3, s3⟩
            exact ⟨rfl, by rw [HR.out]; exact ⟨⟨m, rfl⟩, r3, G2.out.step.drew.trans s3⟩⟩
          · refine AllReady.cons rfl (fun K hK => ?_) AllReady.nil
            go_simp
            refine (H1.out _ G2.out.rd.drew).mono ?_
            rintro e w3 ⟨⟨m, rfl⟩, r3, s3⟩
            exact ⟨rfl, by rw [HR.out]; exact ⟨⟨m, rfl⟩, r3, G2.out.step.drew.trans s3⟩⟩
        | ok y j3 =>
          obtain ⟨hj3, hj3l⟩ := ha y j3 rfl
          have HR : Hid (mList ws F g1 (erases els ++ [y]) j3 = R) := hm
          clear hm ha
          go_wp2
          go_region_law (first | (go_simp; go_at_call 80; refine (H1.out _ G2.out.rd.drew).mono ?_; rintro e w3 ⟨z, rfl, hz3, hsz, hnz, r3, s3⟩; obtain ⟨zk, zs, zm, za, zc, zkk⟩ := z; simp only [A.val]; have T3 := G2.out.drew.on s3 r3; obtain ⟨b0, b1, b2, b3, f0, f1, f2, f3⟩ := four_of T3.here; have hp3 := T3.plt; have a3 := ((T3.on ((Step.refl rb w3).alloc (.cells #[.int .i64 zk, .string zs, .int .i64 zm, .slice za zkk.length zc] 26)) (r3.alloc _)) |> fun q => (four_of q.here).2.2.2.1); have OW := mkHid (T3.own.alloc (.cells #[.int .i64 zk, .string zs, .int .i64 zm, .slice za zkk.length zc] 26)); have HT3 := mkHid T3; have HS3 := mkHid s3; have HZ := mkHid hz3; have HSZ := mkHid hsz; have HNZ := mkHid hnz; have HR3 := mkHid r3; clear T3 s3 hz3 hsz hnz r3) | (refine step_append_lies _ (by rfl) _ _ _ (by rfl) (w1.heap.size + 1) 26 i0 _ 4 56 Tryz.underlying24 HI.out.1 HI.out.2.1 HI.out.2.2.1 HI.out.2.2.2 rfl (by decide) _ _ _ (by rfl) OW.out ⟨w3.heap.size, 0, none⟩ 1 1 [.int .i64 zk, .string zs, .int .i64 zm, .slice za zkk.length zc] (by rfl) (by rfl) (World.news_of_block (heap_alloc_new w3 _)) (fun u hu => by simp at hu; rcases hu with rfl | rfl | rfl | rfl <;> rfl) (by decide) (by unfold maxLen; omega) (by omega) (by simp; omega) (w3.heap.size + 1) (by simp) ?_; intro g c2 w4 hown hgrow hat hlt4; have GP := mkHid (Stem.push (x := .node zk zs zm za zc zkk) G2.out.drew HS3.out HR3.out HSZ.out HNZ.out _ hown hgrow hat); have k3 : w4.cell? ⟨w1.heap.size, 3, none⟩ = some (.slice sa els.length sc) := (hgrow.cell_far ⟨w1.heap.size, 3, none⟩ (by simp; omega) (fun e => absurd (OW.out.lt _ e.symm).1 (Nat.not_succ_le_self _))).trans a3; have kf : w4.frozen? ⟨w1.heap.size, 3, none⟩ = false := (hgrow.frozen_far ⟨w1.heap.size, 3, none⟩ (by simp; omega) (fun e => absurd (OW.out.lt _ e.symm).1 (Nat.not_succ_le_self _))).trans ((World.frozen?_of_block (Lib.alloc_old w3 _ _ hp3)).trans f3); clear hown hgrow hat))
          all_goals
            go_wp2
            go_roundw
            case rel => exact ⟨_, _, _, j3, g1, GP.out, by omega, by omega, by simp; omega, hj3l, by rw [erases_append]; simp only [erases]; rw [HZ.out]; exact HR.out⟩
            case measure => rw [HPo.out]; exact Nat.lt_of_le_of_lt (Nat.le_of_eq (congrArg (fun q => ws.length - q) GP.out.rd.pos)) (by omega)
  · rw [show mBlock ws F (f + 1) i = .no i by simp only [mBlock, want]; rw [if_neg h0]]
    have T0 := mkHid (fun w h => take_no rb a cap ws i sz ⟨#[123]⟩ w h (by simpa using h0))
    clear h hS h0 he
    go_enter Tryz.func130, Tryz.ntmps130
    go_wp2_with fail
    refine (T0.out _ (HA.out.alloc _)).mono ?_
    rintro e w1 ⟨⟨m, rfl⟩, r1, s1⟩
    exact ⟨rfl, ⟨m, rfl⟩, r1, ((Step.refl rb w).alloc _).trans s1⟩
end Go.Proofs.YthccohemcagkcaaGreatDoor
