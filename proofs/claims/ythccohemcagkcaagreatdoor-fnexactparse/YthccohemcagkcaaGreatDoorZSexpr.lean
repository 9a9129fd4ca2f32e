/-
  CONTRACT of the specification's reader's expr.
-/
import Derived.Test.YthccohemcagkcaaGreatDoorZSterm
import Derived.Test.YthccohemcagkcaaGreatDoorZSoneb
import Derived.Test.YthccohemcagkcaaGreatDoorZSonec
namespace Go.Proofs.YthccohemcagkcaaGreatDoor
open Go.RowKit
open Pl

set_option maxRecDepth 100000 in
set_option maxHeartbeats 4000000 in
theorem sexpr_step {rb : Nat} {a : Option Addr} {cap : Nat} {ws : List W3} {f : Nat} (hO : ∀ g, g ≤ f → STerm rb a cap ws g) : SExpr rb a cap ws (f + 1) := by
  intro st w hf h
  obtain ⟨i, b⟩ := st
  simp only at hf
  generalize hR : mExpr ws (f + 1) i = R
  have hR' : R = (mTerm ws f i).then_ fun x j => mExprL ws f x j := by rw [← hR]; simp only [mExpr]
  have H1 := mkHid (fun w h => hO f (Nat.le_refl _) (i, b) w (by simp only; omega) h)
  have HT := mkHid (fun (x : T) (st' : St2) (h : SR (mTerm ws f i) (i, b) x st') => tinv_first (ws := ws) (f := f) (m := mExprL ws) (x := x) (st' := st') hR' h (fun t j e => (adv ws f).2.1 i t j e) (by omega))
  have HO := mkHid hO
  have HA := mkHid h
  have hrb := h.lt
  clear hO h hR hR'
  show Calls _ _ _ _ (SPost rb a cap ws w R (i, b))
  go_enter Tryz.func150, Tryz.ntmps150
  go_wp2_with fail
  refine (H1.out _ (HA.out.alloc _)).mono ?_
  rintro e w1 ⟨x, st', rfl, hsx, hnx, r1, s1, hr⟩
  have hG := SGrown.first (s1.at (heap_alloc_new w _) (by omega)) hsx hnx (by simp) r1 (((Step.refl rb w).alloc _).trans s1) hrb _ rfl
  have HI := mkHid (HT.out x.erase st' hr)
  have hz : w.heap.size < w1.heap.size := (Array.getElem?_eq_some_iff.1 (s1.at (heap_alloc_new w _) (by omega))).1
  obtain ⟨xk, xs, xm, xa, xc, xkk⟩ := x
  have HG := mkHid hG
  clear hG hsx hnx r1 s1 H1 HA hr HT
  simp only [A.val]
  go_wp2
  go_loopw [] (fun w' => ∃ (x : A) (st' : St2), SGrown rb a cap ws w w1.heap.size w' x st' ∧ TInv ws f (mExprL ws) R (i, b) x.erase st') (fun w' => ws.length - posOf rb w')
  case atStart => exact ⟨_, _, HG.out, HI.out⟩
  case round =>
    obtain ⟨x, st2, hG, hI⟩ := hrel
    obtain ⟨yk, ys, ym, ya, yc, ykk⟩ := x
    have G0 := mkHid hG
    have I0 := mkHid hI
    have hpos := hG.sd.pos
    have HPo := mkHid hpos
    clear hG hI hpos HG HI
    by_cases hw : tk ws st2 ⟨#[43]⟩ = true
    · have T0 := mkHid (fun w h => sTake_yes rb a cap ws st2 ⟨#[43]⟩ (by decide) w h hw)
      obtain ⟨j, c⟩ := st2
      obtain ⟨hc, hw2⟩ := tk_yes hw
      simp only at hc hw2
      subst hc
      have hjl := isW_lt hw2
      obtain ⟨hb, g, hgf, hgl, hm⟩ : b = false ∧ ∃ g, g ≤ f ∧ 5 * (ws.length - j) + 1 ≤ g ∧ mExprL ws g (A.node yk ys ym ya yc ykk).erase j = R := by
        rcases I0.out with ⟨h1, h2⟩ | ⟨h1, ⟨h2, _⟩ | ⟨_, g, h3, h4, h5⟩⟩
        · simp only at h1; subst h1; cases h2
        · cases h2
        · exact ⟨h1, g, h3, h4, h5⟩
      subst hb
      obtain ⟨g1, rfl⟩ : ∃ g1, g = g1 + 1 := ⟨g - 1, by omega⟩
      have hm2 : (mTerm ws g1 (j + 1)).then_ (fun y k => mExprL ws g1 (.node 6 nil_ 0 [(A.node yk ys ym ya yc ykk).erase, y]) k) = R := by
        have := hm
        simp only [mExprL] at this
        rw [if_pos hw2] at this
        exact this
      have H1 := mkHid (fun w h => HO.out g1 (by omega) (j + 1, false) w (by simp only; omega) h)
      have HS := mkHid (fun (y : T) (st3 : St2) (h : SR (mTerm ws g1 (j + 1)) (j + 1, false) y st3) => show TInv ws f (mExprL ws) R (i, false) (.node 6 nil_ 0 [(A.node yk ys ym ya yc ykk).erase, y]) st3 ∧ j < st3.1 from by
        have e1 := (adv ws g1).2.1 (j + 1)
        have e2 := (advN ws g1).2.1 (j + 1)
        generalize mTerm ws g1 (j + 1) = r at h hm2 e1 e2
        refine ⟨.inr ⟨rfl, ?_⟩, ?_⟩
        · cases r with
          | no p => rw [h.no]; exact .inl ⟨rfl, hm2.symm⟩
          | ok t k =>
            have := e1 t k rfl
            rw [h.ok.2, h.ok.1]
            exact .inr ⟨rfl, g1, by omega, by simp only; omega, hm2⟩
        · cases r with
          | no p => rw [h.no]; have := e2 p rfl; simp only; omega
          | ok t k => rw [h.ok.2]; have := e1 t k rfl; simp only; omega)
      clear hm hm2 hw hw2 I0 hgl
      go_wp2_with fail
      refine (T0.out _ G0.out.sd).mono ?_
      rintro e w2 ⟨rfl, r2, s2⟩
      have G2 := mkHid (G0.out.on s2 r2)
      clear r2 s2 T0
      go_wp2_with fail
      refine (H1.out _ G2.out.sd).mono ?_
      rintro e w3 ⟨z, st3, rfl, hsz, hnz, r3, s3, hr3⟩
      have hG3 := (G2.out.on s3 r3)
      have lz := Sits.lt z hsz
      have hzw := G2.out.plt
      have hxl := Sits.lt _ G2.out.sits
      have hNN := NewL.snoc (xs := [A.node yk ys ym ya yc ykk]) (n1 := w2.heap.size) (NewL.one G2.out.new) (fun b hb => hxl b (by rwa [feet_one] at hb)) hnz (by have := G2.out.lt; omega)
      obtain ⟨zk, zs, zm, za, zc, zkk⟩ := z
      have G3 := mkHid (hG3.on ((Step.refl rb w3).alloc (.cells #[.int .i64 zk, .string zs, .int .i64 zm, .slice za zkk.length zc] 26)) (r3.alloc _))
      have HZ := mkHid (Sits.stay _ (fun q hq => Lib.alloc_old w3 (.cells #[.int .i64 zk, .string zs, .int .i64 zm, .slice za zkk.length zc] 26) q (lz q hq)) hsz)
      have HN := mkHid hNN
      have HR3 := mkHid (HS.out _ _ hr3)
      have HOZ : Hid (w1.heap.size ∉ (A.node zk zs zm za zc zkk).foot) := fun q => by have := hnz.2 _ q; omega
      have hp3 : w1.heap.size < w3.heap.size := hG3.plt
      obtain ⟨d0, d1, d2, d3, e0, e1, e2, e3⟩ := four_of (show w3.heap[w1.heap.size]? = some (.cells #[.int .i64 yk, .string ys, .int .i64 ym, .slice ya ykk.length yc] 26 (0, 0)) from hG3.here)
      clear hG3 lz hxl hNN hsz hnz r3 s3 hr3 hzw H1 HS
      simp only [A.val]
      go_wp2_with fail
      refine (two_new 6 (.node yk ys ym ya yc ykk) (.node zk zs zm za zc zkk) _).mono ?_
      rintro e w4 ⟨bb, rfl, hB, hge, hb⟩
      obtain ⟨t1, t2⟩ := made (n := w.heap.size + 1) (k := 6) (m := 0) (s := ⟨#[]⟩) (c := 2) (xs := [.node yk ys ym ya yc ykk, .node zk zs zm za zc zkk]) ⟨G3.out.sits, HZ.out, trivial⟩ hb hB hge HN.out (by have := G3.out.plt; have := G3.out.lt; omega) (by decide) (by simp [maxLen])
      have hoff : w1.heap.size ∉ (A.node 6 ⟨#[]⟩ 0 (some ⟨bb, 0, none⟩) 2 [A.node yk ys ym ya yc ykk, .node zk zs zm za zc zkk]).foot := by
        simp only [A.foot, List.length_cons, blockOf]
        intro q
        rw [List.mem_append] at q
        rcases q with q | q
        · simp at q; have := G3.out.plt; omega
        · have hq' : w1.heap.size ∈ (A.node yk ys ym ya yc ykk).foot ∨ w1.heap.size ∈ (A.node zk zs zm za zc zkk).foot := by simpa [feet] using q
          rcases hq' with h | h
          · exact G3.out.off h
          · exact HOZ.out h
      have G4 := mkHid (G3.out.below hb)
      have G5 := mkHid ((G3.out.below hb).set t1 t2 hoff (.int .i64 6) (.string ⟨#[]⟩) (.int .i64 0) (.slice (some ⟨bb, 0, none⟩) 2 2) rfl)
      obtain ⟨k0, k1, k2, k3, l0, l1, l2, l3⟩ := four_of (show w4.heap[w1.heap.size]? = some (.cells #[.int .i64 yk, .string ys, .int .i64 ym, .slice ya ykk.length yc] 26 (0, 0)) from G4.out.here)
      clear hB hge hb t1 t2 hoff d0 d1 d2 d3 e0 e1 e2 e3
      simp only [A.val]
      go_wp2
      go_roundw
      case rel => exact ⟨_, _, G5.out, by rw [erase2]; exact HR3.out.1⟩
      case measure => rw [HPo.out]; exact Nat.lt_of_le_of_lt (Nat.le_of_eq (congrArg (fun q => ws.length - q) G5.out.sd.pos)) (by have := HR3.out.2; omega)
    · simp only [Bool.not_eq_true] at hw
      have hp := hw
      clear hw
      by_cases hw : tk ws st2 ⟨#[45]⟩ = true
      · have T0 := mkHid (fun w h => sTake_yes rb a cap ws st2 ⟨#[45]⟩ (by decide) w h hw)
        obtain ⟨j, c⟩ := st2
        obtain ⟨hc, hw2⟩ := tk_yes hw
        simp only at hc hw2
        subst hc
        have hno : isW ws j ⟨#[43]⟩ = false := by simpa [tk] using hp
        have T9 := mkHid (fun w h => sTake_no rb a cap ws (j, false) ⟨#[43]⟩ (by decide) w h hp)
        have hjl := isW_lt hw2
        obtain ⟨hb, g, hgf, hgl, hm⟩ : b = false ∧ ∃ g, g ≤ f ∧ 5 * (ws.length - j) + 1 ≤ g ∧ mExprL ws g (A.node yk ys ym ya yc ykk).erase j = R := by
          rcases I0.out with ⟨h1, h2⟩ | ⟨h1, ⟨h2, _⟩ | ⟨_, g, h3, h4, h5⟩⟩
          · simp only at h1; subst h1; cases h2
          · cases h2
          · exact ⟨h1, g, h3, h4, h5⟩
        subst hb
        obtain ⟨g1, rfl⟩ : ∃ g1, g = g1 + 1 := ⟨g - 1, by omega⟩
        have hm2 : (mTerm ws g1 (j + 1)).then_ (fun y k => mExprL ws g1 (.node 7 nil_ 0 [(A.node yk ys ym ya yc ykk).erase, y]) k) = R := by
          have := hm
          simp only [mExprL] at this
          rw [if_neg (by rw [hno]; decide), if_pos hw2] at this
          exact this
        have H1 := mkHid (fun w h => HO.out g1 (by omega) (j + 1, false) w (by simp only; omega) h)
        have HS := mkHid (fun (y : T) (st3 : St2) (h : SR (mTerm ws g1 (j + 1)) (j + 1, false) y st3) => show TInv ws f (mExprL ws) R (i, false) (.node 7 nil_ 0 [(A.node yk ys ym ya yc ykk).erase, y]) st3 ∧ j < st3.1 from by
          have e1 := (adv ws g1).2.1 (j + 1)
          have e2 := (advN ws g1).2.1 (j + 1)
          generalize mTerm ws g1 (j + 1) = r at h hm2 e1 e2
          refine ⟨.inr ⟨rfl, ?_⟩, ?_⟩
          · cases r with
            | no p => rw [h.no]; exact .inl ⟨rfl, hm2.symm⟩
            | ok t k =>
              have := e1 t k rfl
              rw [h.ok.2, h.ok.1]
              exact .inr ⟨rfl, g1, by omega, by simp only; omega, hm2⟩
          · cases r with
            | no p => rw [h.no]; have := e2 p rfl; simp only; omega
            | ok t k => rw [h.ok.2]; have := e1 t k rfl; simp only; omega)
        clear hm hm2 hw hw2 I0 hgl hp hno
        go_wp2_with fail
        refine (T9.out _ G0.out.sd).mono ?_
        rintro e w9 ⟨rfl, r9, s9⟩
        have G9 := mkHid (G0.out.on s9 r9)
        clear r9 s9 T9
        go_wp2_with fail
        refine (T0.out _ G9.out.sd).mono ?_
        rintro e w2 ⟨rfl, r2, s2⟩
        have G2 := mkHid (G9.out.on s2 r2)
        clear r2 s2 T0
        go_wp2_with fail
        refine (H1.out _ G2.out.sd).mono ?_
        rintro e w3 ⟨z, st3, rfl, hsz, hnz, r3, s3, hr3⟩
        have hG3 := (G2.out.on s3 r3)
        have lz := Sits.lt z hsz
        have hzw := G2.out.plt
        have hxl := Sits.lt _ G2.out.sits
        have hNN := NewL.snoc (xs := [A.node yk ys ym ya yc ykk]) (n1 := w2.heap.size) (NewL.one G2.out.new) (fun b hb => hxl b (by rwa [feet_one] at hb)) hnz (by have := G2.out.lt; omega)
        obtain ⟨zk, zs, zm, za, zc, zkk⟩ := z
        have G3 := mkHid (hG3.on ((Step.refl rb w3).alloc (.cells #[.int .i64 zk, .string zs, .int .i64 zm, .slice za zkk.length zc] 26)) (r3.alloc _))
        have HZ := mkHid (Sits.stay _ (fun q hq => Lib.alloc_old w3 (.cells #[.int .i64 zk, .string zs, .int .i64 zm, .slice za zkk.length zc] 26) q (lz q hq)) hsz)
        have HN := mkHid hNN
        have HR3 := mkHid (HS.out _ _ hr3)
        have HOZ : Hid (w1.heap.size ∉ (A.node zk zs zm za zc zkk).foot) := fun q => by have := hnz.2 _ q; omega
        have hp3 : w1.heap.size < w3.heap.size := hG3.plt
        obtain ⟨d0, d1, d2, d3, e0, e1, e2, e3⟩ := four_of (show w3.heap[w1.heap.size]? = some (.cells #[.int .i64 yk, .string ys, .int .i64 ym, .slice ya ykk.length yc] 26 (0, 0)) from hG3.here)
        clear hG3 lz hxl hNN hsz hnz r3 s3 hr3 hzw H1 HS
        simp only [A.val]
        go_wp2_with fail
        refine (two_new 7 (.node yk ys ym ya yc ykk) (.node zk zs zm za zc zkk) _).mono ?_
        rintro e w4 ⟨bb, rfl, hB, hge, hb⟩
        obtain ⟨t1, t2⟩ := made (n := w.heap.size + 1) (k := 7) (m := 0) (s := ⟨#[]⟩) (c := 2) (xs := [.node yk ys ym ya yc ykk, .node zk zs zm za zc zkk]) ⟨G3.out.sits, HZ.out, trivial⟩ hb hB hge HN.out (by have := G3.out.plt; have := G3.out.lt; omega) (by decide) (by simp [maxLen])
        have hoff : w1.heap.size ∉ (A.node 7 ⟨#[]⟩ 0 (some ⟨bb, 0, none⟩) 2 [A.node yk ys ym ya yc ykk, .node zk zs zm za zc zkk]).foot := by
          simp only [A.foot, List.length_cons, blockOf]
          intro q
          rw [List.mem_append] at q
          rcases q with q | q
          · simp at q; have := G3.out.plt; omega
          · have hq' : w1.heap.size ∈ (A.node yk ys ym ya yc ykk).foot ∨ w1.heap.size ∈ (A.node zk zs zm za zc zkk).foot := by simpa [feet] using q
            rcases hq' with h | h
            · exact G3.out.off h
            · exact HOZ.out h
        have G4 := mkHid (G3.out.below hb)
        have G5 := mkHid ((G3.out.below hb).set t1 t2 hoff (.int .i64 7) (.string ⟨#[]⟩) (.int .i64 0) (.slice (some ⟨bb, 0, none⟩) 2 2) rfl)
        obtain ⟨k0, k1, k2, k3, l0, l1, l2, l3⟩ := four_of (show w4.heap[w1.heap.size]? = some (.cells #[.int .i64 yk, .string ys, .int .i64 ym, .slice ya ykk.length yc] 26 (0, 0)) from G4.out.here)
        clear hB hge hb t1 t2 hoff d0 d1 d2 d3 e0 e1 e2 e3
        simp only [A.val]
        go_wp2
        go_roundw
        case rel => exact ⟨_, _, G5.out, by rw [erase2]; exact HR3.out.1⟩
        case measure => rw [HPo.out]; exact Nat.lt_of_le_of_lt (Nat.le_of_eq (congrArg (fun q => ws.length - q) G5.out.sd.pos)) (by have := HR3.out.2; omega)
      · simp only [Bool.not_eq_true] at hw
        have T0 := mkHid (fun w h => sTake_no rb a cap ws st2 ⟨#[45]⟩ (by decide) w h hw)
        have T9 := mkHid (fun w h => sTake_no rb a cap ws st2 ⟨#[43]⟩ (by decide) w h hp)
        have HE : Hid (SR R (i, b) (A.node yk ys ym ya yc ykk).erase st2) := tinv_end I0.out (fun h0 g hg => by
          obtain ⟨g1, rfl⟩ : ∃ g1, g = g1 + 1 := ⟨g - 1, by omega⟩
          have : isW ws st2.1 ⟨#[45]⟩ = false := by simpa [tk, h0] using hw
          have this2 : isW ws st2.1 ⟨#[43]⟩ = false := by simpa [tk, h0] using hp
          simp only [mExprL]
          rw [if_neg (by rw [this2]; decide), if_neg (by rw [this]; decide)])
        clear hw I0 hp
        go_wp2_with fail
        refine (T9.out _ G0.out.sd).mono ?_
        rintro e w9 ⟨rfl, r9, s9⟩
        have G9 := mkHid (G0.out.on s9 r9)
        clear r9 s9 T9
        go_wp2_with fail
        refine (T0.out _ G9.out.sd).mono ?_
        rintro e w2 ⟨rfl, r2, s2⟩
        have G2 := mkHid (G9.out.on s2 r2)
        clear r2 s2 T0
        obtain ⟨d0, d1, d2, d3, _⟩ := four_of (show w2.heap[w1.heap.size]? = some (.cells #[.int .i64 yk, .string ys, .int .i64 ym, .slice ya ykk.length yc] 26 (0, 0)) from G2.out.here)
        obtain ⟨c0, c1, c2, c3, f0, f1, f2, f3⟩ := four_of G2.out.res
        go_wp2
        obtain ⟨q0, q1, q2, q3⟩ := put4_cells0 G2.out.res (.int .i64 yk) (.string ys) (.int .i64 ym) (.slice ya ykk.length yc)
        exact bodyPost_ret (v := (A.node yk ys ym ya yc ykk).val) (by simp [results, Tryz.results150, go_sem, q0, q1, q2, q3, A.val]) rfl (sp_tree _ _ _ _ _ G2.out.sd hrb G2.out.step G2.out.sits G2.out.new (by omega) HE.out)
theorem sone_step {rb : Nat} {a : Option Addr} {cap : Nat} {ws : List W3} {f : Nat} (he : Env ws) (hO : SOne rb a cap ws f) (hE : SExpr rb a cap ws f) : SOne rb a cap ws (f + 1) := by
  rintro ⟨i, b⟩ w hf h
  simp only at hf
  cases b with
  | true => exact sone_bad i w h
  | false =>
    by_cases n0 : isW ws i ⟨#[45]⟩ = true
    · exact sone_neg hO i w hf h n0
    · simp only [Bool.not_eq_true] at n0
      by_cases n2 : kindW ws i = 2
      · exact sone_num he i w h n0 n2
      · have n2' : (kindW ws i == 2) = false := by simpa using n2
        by_cases n1 : isW ws i ⟨#[40]⟩ = true
        · exact sone_par hE i w hf h n0 n2' n1
        · simp only [Bool.not_eq_true] at n1
          by_cases n3 : isW ws i ⟨#[108, 101, 110]⟩ = true
          · exact sone_len he i w h n0 n1 n2' n3
          · simp only [Bool.not_eq_true] at n3
            by_cases hv : kindW ws i = 1 ∧ isW ws (i + 1) ⟨#[91]⟩ = true
            · exact sone_cell he hE i w hf h n0 n1 n2' n3 hv.1 hv.2
            · refine sone_var he i w h n0 n1 n2' n3 ?_
              by_cases q : kindW ws i = 1
              · have e1 : nmS ws (i, false) = (i + 1, false) := by simp [nmS, nmB, q]
                rw [e1, tk_good]
                cases q2 : isW ws (i + 1) ⟨#[91]⟩ with
                | false => rfl
                | true => exact absurd ⟨q, q2⟩ hv
              · have e1 : nmS ws (i, false) = (i, true) := by simp [nmS, nmB, q]
                rw [e1]; simp [tk]
/-- The specification's reader, at expressions. -/
theorem sexpr_all {rb : Nat} {a : Option Addr} {cap : Nat} {ws : List W3} (he : Env ws) (f : Nat) : ∀ g, g ≤ f → SOne rb a cap ws g ∧ STerm rb a cap ws g ∧ SExpr rb a cap ws g := by
  induction f with
  | zero =>
    intro g hg
    have : g = 0 := by omega
    subst this
    exact ⟨fun i w h => by omega, fun i w h => by omega, fun i w h => by omega⟩
  | succ f ih =>
    intro g hg
    by_cases q : g ≤ f
    · exact ih g q
    · have : g = f + 1 := by omega
      subst this
      exact ⟨sone_step he (ih f (Nat.le_refl _)).1 (ih f (Nat.le_refl _)).2.2, sterm_step fun g hg => (ih g hg).1, sexpr_step fun g hg => (ih g hg).2.1⟩
end Go.Proofs.YthccohemcagkcaaGreatDoor
