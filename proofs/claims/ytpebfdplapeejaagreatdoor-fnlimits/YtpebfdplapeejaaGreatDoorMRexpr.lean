/-
  CONTRACT of the program's reader's expr.
-/
import Derived.Test.YtpebfdplapeejaaGreatDoorMRterm
namespace Go.Proofs.YtpebfdplapeejaaGreatDoor
open Go.RowKit
open Pl

set_option maxRecDepth 100000 in
set_option maxHeartbeats 8000000 in
theorem expr_step {rb : Nat} {a : Option Addr} {cap : Nat} {ws : List W3} {sz f : Nat} (hO : ∀ g, g ≤ f → ITerm rb a cap ws sz g) : IExpr rb a cap ws sz (f + 1) := by
  intro i w hf h
  have HM := mkHid (show mExpr ws (f + 1) i = (mTerm ws f i).then_ fun x j => mExprL ws f x j by simp only [mExpr])
  rw [HM.out]
  have hO1 := fun w h => hO f (Nat.le_refl _) i w (by omega) h
  have ha := (adv ws f).2.1 i
  generalize mTerm ws f i = r at hO1 ha ⊢
  have H1 := mkHid hO1
  have HO := mkHid hO
  have HA := mkHid h
  have hrb := h.lt
  clear HM hO h hO1
  cases r with
  | no p =>
    clear ha
    go_enter Tryz.func52, Tryz.ntmps52
    go_wp2_with fail
    refine (H1.out _ (HA.out.alloc _)).mono ?_
    rintro e w1 ⟨⟨m, rfl⟩, r1, s1⟩
    exact ⟨rfl, ⟨m, rfl⟩, r1, ((Step.refl rb w).alloc _).trans s1⟩
  | ok t j =>
    obtain ⟨hij, hjl⟩ := ha t j rfl
    clear ha
    show Calls _ _ _ _ (Post rb a cap ws sz w (mExprL ws f t j))
    generalize hR : mExprL ws f t j = R
    have HR := mkHid hR
    clear hR
    go_enter Tryz.func52, Tryz.ntmps52
    go_wp2_with fail
    refine (H1.out _ (HA.out.alloc _)).mono ?_
    rintro e w1 ⟨x, rfl, hx, hsx, hnx, r1, s1⟩
    have hG := Grown.first (s1.at (heap_alloc_new w _) (by omega)) hsx hnx (by simp) r1 (((Step.refl rb w).alloc _).trans s1) hrb _ rfl
    have hz : w.heap.size < w1.heap.size := (Array.getElem?_eq_some_iff.1 (s1.at (heap_alloc_new w _) (by omega))).1
    obtain ⟨xk, xs, xm, xa, xc, xkk⟩ := x
    have HG := mkHid hG
    have HX := mkHid hx
    clear hG hx hsx hnx r1 s1 H1 HA
    simp only [A.val]
    go_wp2
    go_loopw [] (fun w' => ∃ (x : A) (j g : Nat), Grown rb a cap ws sz w w1.heap.size w' x j ∧ g ≤ f ∧ 5 * (ws.length - j) + 1 ≤ g ∧ mExprL ws g x.erase j = R) (fun w' => ws.length - posOf rb w')
    case atStart => exact ⟨_, j, f, HG.out, Nat.le_refl _, by omega, by rw [HX.out]; exact HR.out⟩
    case round =>
      obtain ⟨x, j2, g, hG, hgf, hfu, hm⟩ := hrel
      obtain ⟨yk, ys, ym, ya, yc, ykk⟩ := x
      have G0 := mkHid hG
      have M0 := mkHid hm
      have R0 := mkHid hG.rd
      have hpos := hG.rd.pos
      have HPo := mkHid hpos
      clear hG hm hpos HG HX HR
      obtain ⟨g1, rfl⟩ : ∃ g1, g = g1 + 1 := ⟨g - 1, by omega⟩
      by_cases hw : isW ws j2 ⟨#[43]⟩ = true
      · have hjl2 := isW_lt hw
        have hm : (mTerm ws g1 (j2 + 1)).then_ (fun y j => mExprL ws g1 (.node 6 nil_ 0 [(A.node yk ys ym ya yc ykk).erase, y]) j) = R := by
          have := M0.out
          simp only [mExprL] at this
          rw [if_pos hw] at this
          exact this
        have hO1 := fun w h => HO.out g1 (by omega) (j2 + 1) w (by omega) h
        have ha := (adv ws g1).2.1 (j2 + 1)
        have T2 := mkHid (fun w h => has_yes rb a cap ws j2 sz ⟨#[43]⟩ w h hw)
        generalize mTerm ws g1 (j2 + 1) = r at hm hO1 ha
        have H1 := mkHid hO1
        clear hO1 M0 hw
        go_wp2_with fail
        refine (T2.out _ G0.out.rd).mono ?_
        rintro e w2 ⟨rfl, r2, s2⟩
        have G2 := mkHid (G0.out.on s2 r2)
        clear r2 s2 T2
        cases r with
        | no p =>
          have HR : Hid (R = .no p) := hm.symm
          clear hm ha
          obtain ⟨d0, d1, d2, d3, e0, e1, e2, e3⟩ := four_of (show w2.heap[w1.heap.size]? = some (.cells #[.int .i64 yk, .string ys, .int .i64 ym, .slice ya ykk.length yc] 33 (0, 0)) from G2.out.here)
          go_wp2
          refine wp_region_any (by kernel_rfl) ?_
          change wpAny _ _ _ _ _ _ _ (World.drew _)
          refine wpAny_take (i := 1) (v := ?v60) rfl (by kernel_rfl) (by kernel_rfl) (by kernel_rfl) (fun _ _ _ h => h) (Or.inl ⟨by rfl, ?hy60⟩) ?rest60
          case hy60 => intro w; go_simp; try with_reducible rfl
          refine wpAny_ready (rs := [0, 2]) (by kernel_rfl) (by simp) ?_
          refine AllReady.cons rfl (fun K hK => ?_) ?_
          · go_simp
            refine hK _ _ ?_
            clear hK K
            refine wpAny_ready (rs := [2]) (by kernel_rfl) (by simp) ?_
            refine AllReady.cons rfl (fun K hK => ?_) AllReady.nil
            go_simp
            refine (H1.out _ G2.out.rd.drew).mono ?_
            rintro e w3 ⟨⟨m, rfl⟩, r3, s3⟩
            exact ⟨rfl, by rw [HR.out]; exact ⟨⟨m, rfl⟩, r3, G2.out.step.drew.trans s3⟩⟩
          · refine AllReady.cons rfl (fun K hK => ?_) AllReady.nil
            go_simp
            refine (H1.out _ G2.out.rd.drew).mono ?_
            rintro e w3 ⟨⟨m, rfl⟩, r3, s3⟩
            exact ⟨rfl, by rw [HR.out]; exact ⟨⟨m, rfl⟩, r3, G2.out.step.drew.trans s3⟩⟩
        | ok y j3 =>
          obtain ⟨hj3, hj3l⟩ := ha y j3 rfl
          have HR : Hid (mExprL ws g1 (.node 6 nil_ 0 [(A.node yk ys ym ya yc ykk).erase, y]) j3 = R) := hm
          clear hm ha
          obtain ⟨d0, d1, d2, d3, e0, e1, e2, e3⟩ := four_of (show w2.heap[w1.heap.size]? = some (.cells #[.int .i64 yk, .string ys, .int .i64 ym, .slice ya ykk.length yc] 33 (0, 0)) from G2.out.here)
          have hp2 := G2.out.plt
          go_wp2
          go_region_with (first | (go_at_call 65; refine (H1.out _ G2.out.rd.drew).mono ?_; rintro e w3 ⟨z, rfl, hz3, hsz, hnz, r3, s3⟩; obtain ⟨zk, zs, zm, za, zc, zkk⟩ := z; simp only [A.val]; obtain ⟨b0, b1, b2, b3, f0, f1, f2, f3⟩ := four_of (show w3.heap[w1.heap.size]? = some (.cells #[.int .i64 yk, .string ys, .int .i64 ym, .slice ya ykk.length yc] 33 (0, 0)) from (G2.out.drew.on s3 r3).here); have hp3 : w1.heap.size < w3.heap.size := (G2.out.drew.on s3 r3).plt; have G3 := mkHid (G2.out.drew.join s3 r3 hsz hnz 6 _ rfl); have HZ := mkHid hz3; clear hz3 hsz hnz r3 s3))
          all_goals
            go_wp2
            go_roundw
            case rel => exact ⟨_, j3, g1, G3.out, by omega, by omega, by rw [erase2, HZ.out]; exact HR.out⟩
            case measure => rw [HPo.out]; exact Nat.lt_of_le_of_lt (Nat.le_of_eq (congrArg (fun q => ws.length - q) G3.out.rd.pos)) (by omega)
      · have hp : isW ws j2 ⟨#[43]⟩ = false := by simpa using hw
        clear hw
        by_cases hw : isW ws j2 ⟨#[45]⟩ = true
        · have hjl2 := isW_lt hw
          have hm : (mTerm ws g1 (j2 + 1)).then_ (fun y j => mExprL ws g1 (.node 7 nil_ 0 [(A.node yk ys ym ya yc ykk).erase, y]) j) = R := by
            have := M0.out
            simp only [mExprL] at this
            rw [if_neg (by rw [hp]; decide), if_pos hw] at this
            exact this
          have hO1 := fun w h => HO.out g1 (by omega) (j2 + 1) w (by omega) h
          have ha := (adv ws g1).2.1 (j2 + 1)
          have T8 := mkHid (fun w h => has_no rb a cap ws j2 sz ⟨#[43]⟩ w h hp)
          have T2 := mkHid (fun w h => has_yes rb a cap ws j2 sz ⟨#[45]⟩ w h hw)
          generalize mTerm ws g1 (j2 + 1) = r at hm hO1 ha
          have H1 := mkHid hO1
          clear hO1 M0 hw hp
          go_wp2_with fail
          refine (T8.out _ G0.out.rd).mono ?_
          rintro e w8 ⟨rfl, r2, s2⟩
          have G8 := mkHid (G0.out.on s2 r2)
          clear r2 s2 T8
          go_wp2_with fail
          refine (T2.out _ G8.out.rd).mono ?_
          rintro e w2 ⟨rfl, r2, s2⟩
          have G2 := mkHid (G8.out.on s2 r2)
          clear r2 s2 T2
          cases r with
          | no p =>
            have HR : Hid (R = .no p) := hm.symm
            clear hm ha
            obtain ⟨d0, d1, d2, d3, e0, e1, e2, e3⟩ := four_of (show w2.heap[w1.heap.size]? = some (.cells #[.int .i64 yk, .string ys, .int .i64 ym, .slice ya ykk.length yc] 33 (0, 0)) from G2.out.here)
            go_wp2
            refine wp_region_any (by kernel_rfl) ?_
            change wpAny _ _ _ _ _ _ _ (World.drew _)
            refine wpAny_take (i := 1) (v := ?v70) rfl (by kernel_rfl) (by kernel_rfl) (by kernel_rfl) (fun _ _ _ h => h) (Or.inl ⟨by rfl, ?hy70⟩) ?rest70
            case hy70 => intro w; go_simp; try with_reducible rfl
            refine wpAny_ready (rs := [0, 2]) (by kernel_rfl) (by simp) ?_
            refine AllReady.cons rfl (fun K hK => ?_) ?_
            · go_simp
              refine hK _ _ ?_
              clear hK K
              refine wpAny_ready (rs := [2]) (by kernel_rfl) (by simp) ?_
              refine AllReady.cons rfl (fun K hK => ?_) AllReady.nil
              go_simp
              refine (H1.out _ G2.out.rd.drew).mono ?_
              rintro e w3 ⟨⟨m, rfl⟩, r3, s3⟩
              exact ⟨rfl, by rw [HR.out]; exact ⟨⟨m, rfl⟩, r3, G2.out.step.drew.trans s3⟩⟩
            · refine AllReady.cons rfl (fun K hK => ?_) AllReady.nil
              go_simp
              refine (H1.out _ G2.out.rd.drew).mono ?_
              rintro e w3 ⟨⟨m, rfl⟩, r3, s3⟩
              exact ⟨rfl, by rw [HR.out]; exact ⟨⟨m, rfl⟩, r3, G2.out.step.drew.trans s3⟩⟩
          | ok y j3 =>
            obtain ⟨hj3, hj3l⟩ := ha y j3 rfl
            have HR : Hid (mExprL ws g1 (.node 7 nil_ 0 [(A.node yk ys ym ya yc ykk).erase, y]) j3 = R) := hm
            clear hm ha
            obtain ⟨d0, d1, d2, d3, e0, e1, e2, e3⟩ := four_of (show w2.heap[w1.heap.size]? = some (.cells #[.int .i64 yk, .string ys, .int .i64 ym, .slice ya ykk.length yc] 33 (0, 0)) from G2.out.here)
            have hp2 := G2.out.plt
            go_wp2
            go_region_with (first | (go_at_call 65; refine (H1.out _ G2.out.rd.drew).mono ?_; rintro e w3 ⟨z, rfl, hz3, hsz, hnz, r3, s3⟩; obtain ⟨zk, zs, zm, za, zc, zkk⟩ := z; simp only [A.val]; obtain ⟨b0, b1, b2, b3, f0, f1, f2, f3⟩ := four_of (show w3.heap[w1.heap.size]? = some (.cells #[.int .i64 yk, .string ys, .int .i64 ym, .slice ya ykk.length yc] 33 (0, 0)) from (G2.out.drew.on s3 r3).here); have hp3 : w1.heap.size < w3.heap.size := (G2.out.drew.on s3 r3).plt; have G3 := mkHid (G2.out.drew.join s3 r3 hsz hnz 7 _ rfl); have HZ := mkHid hz3; clear hz3 hsz hnz r3 s3))
            all_goals
              go_wp2
              go_roundw
              case rel => exact ⟨_, j3, g1, G3.out, by omega, by omega, by rw [erase2, HZ.out]; exact HR.out⟩
              case measure => rw [HPo.out]; exact Nat.lt_of_le_of_lt (Nat.le_of_eq (congrArg (fun q => ws.length - q) G3.out.rd.pos)) (by omega)
        · have T8 := mkHid (fun w h => has_no rb a cap ws j2 sz ⟨#[43]⟩ w h hp)
          have T2 := mkHid (fun w h => has_no rb a cap ws j2 sz ⟨#[45]⟩ w h (by simpa using hw))
          have HR : Hid (R = .ok (A.node yk ys ym ya yc ykk).erase j2) := by
            have := M0.out
            simp only [mExprL] at this
            rw [if_neg (by rw [hp]; decide), if_neg hw] at this
            exact this.symm
          clear M0 hw hp
          go_wp2_with fail
          refine (T8.out _ G0.out.rd).mono ?_
          rintro e w8 ⟨rfl, r2, s2⟩
          have G8 := mkHid (G0.out.on s2 r2)
          clear r2 s2 T8
          go_wp2_with fail
          refine (T2.out _ G8.out.rd).mono ?_
          rintro e w2 ⟨rfl, r2, s2⟩
          have G2 := mkHid (G8.out.on s2 r2)
          clear r2 s2 T2
          obtain ⟨d0, d1, d2, d3, _⟩ := four_of (show w2.heap[w1.heap.size]? = some (.cells #[.int .i64 yk, .string ys, .int .i64 ym, .slice ya ykk.length yc] 33 (0, 0)) from G2.out.here)
          obtain ⟨c0, c1, c2, c3, f0, f1, f2, f3⟩ := four_of G2.out.res
          go_wp2
          obtain ⟨q0, q1, q2, q3⟩ := put4_cells0 G2.out.res (.int .i64 yk) (.string ys) (.int .i64 ym) (.slice ya ykk.length yc)
          exact bodyPost_ret (v := (A.node yk ys ym ya yc ykk).val) (by simp [results, Tryz.results52, go_sem, q0, q1, q2, q3, A.val]) rfl (by rw [HR.out]; exact end_tree _ _ _ _ _ G2.out.rd hrb G2.out.step rfl G2.out.sits G2.out.new (by omega))
/-- The program's reader, at expressions. -/
theorem expr_all {rb : Nat} {a : Option Addr} {cap : Nat} {ws : List W3} {sz : Nat} (he : Env ws) (f : Nat) : ∀ g, g ≤ f → IOne rb a cap ws sz g ∧ ITerm rb a cap ws sz g ∧ IExpr rb a cap ws sz g := by
  induction f with
  | zero =>
    intro g hg
    have : g = 0 := by omega
    subst this
    exact ⟨fun i w h => by omega, fun i w h => by omega, fun i w h => by omega⟩
  | succ f ih =>
    intro g hg
    by_cases q : g ≤ f
    · exact ih g q
    · have : g = f + 1 := by omega
      subst this
      exact ⟨one_step he (ih f (Nat.le_refl _)).1 (ih f (Nat.le_refl _)).2.2, term_step fun g hg => (ih g hg).1, expr_step fun g hg => (ih g hg).2.1⟩
end Go.Proofs.YtpebfdplapeejaaGreatDoor
