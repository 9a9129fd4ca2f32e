/-
  CONTRACT of the program's reader's term.
  CONTRACT of the program's reader's expr.
  A NODE WHOSE LIST GROWS, while the program reads.
  CONTRACT of the program's reader's cond.
-/
import Derived.Test.YtjmjmdmnejnlbaaGreatDoorMRonec
import Derived.Test.YtjmjmdmnejnlbaaGreatDoorMFormb
namespace Go.Proofs.YtjmjmdmnejnlbaaGreatDoor
open Go.RowKit
open Pl

def ITerm (rb : Nat) (a : Option Addr) (cap : Nat) (ws : List W3) (sz : Nat) (f : Nat) : Prop := ∀ (i : Nat) (w : World), 5 * (ws.length - i) + 2 ≤ f → Rd w rb a cap ws i sz →
 Calls Tryz.prog 115 #[.pointer (some ⟨rb, 0, none⟩)] w (Post rb a cap ws sz w (mTerm ws f i))
theorem Rd.drew {w : World} {rb : Nat} {a : Option Addr} {cap : Nat} {ws : List W3} {i sz : Nat} (h : Rd w rb a cap ws i sz) : Rd w.drew rb a cap ws i sz := h.drewN 1
/-- Where the reader stands, read off its memory. -/
def posOf (rb : Nat) (w : World) : Nat := match w.cell? ⟨rb, 1, none⟩ with
 | some (.int _ v) => v.toNat
 | _ => 0
theorem Rd.pos {w : World} {rb : Nat} {a : Option Addr} {cap : Nat} {ws : List W3} {i sz : Nat} (h : Rd w rb a cap ws i sz) : posOf rb w = i := by
 unfold posOf
 rw [h.cells.2.1]
 simp

/-- What a loop that builds a tree from the left holds on to: the tree lies in block p1, the result's variable in block p0. -/
structure Grown (rb : Nat) (a : Option Addr) (cap : Nat) (ws : List W3) (sz : Nat) (w : World) (p1 : Nat) (w' : World) (x : A) (j : Nat) : Prop where
 here : w'.heap[p1]? = some (.cells x.cells.toArray 26 (0, 0))
 res : w'.heap[w.heap.size]? = some (.cells #[.int .i64 0, .string ⟨#[]⟩, .int .i64 0, .slice none 0 0] 26 (0, 0))
 sits : Sits w' x
 new : New (w.heap.size + 1) x
 off : p1 ∉ x.foot
 rd : Rd w' rb a cap ws j sz
 step : Step rb w w'
 lt : w.heap.size < p1
 rlt : rb < w.heap.size
theorem Grown.plt {rb : Nat} {a : Option Addr} {cap : Nat} {ws : List W3} {sz : Nat} {w : World} {p1 : Nat} {w' : World} {x : A} {j : Nat} (h : Grown rb a cap ws sz w p1 w' x j) : p1 < w'.heap.size := (Array.getElem?_eq_some_iff.1 h.here).1
/-- Behind a part that reads on. -/
theorem Grown.on {rb : Nat} {a : Option Addr} {cap : Nat} {ws : List W3} {sz : Nat} {w : World} {p1 : Nat} {w' w2 : World} {x : A} {j j2 : Nat} (h : Grown rb a cap ws sz w p1 w' x j) (s : Step rb w' w2) (r : Rd w2 rb a cap ws j2 sz) : Grown rb a cap ws sz w p1 w2 x j2 := by
 have hr := h.rlt
 have hl := h.lt
 exact ⟨s.at h.here (by omega), s.at h.res (by omega), s.sits h.sits (fun q hq => by have := h.new.2 q hq; omega), h.new, h.off, r, h.step.trans s, hl, hr⟩
theorem Grown.drew {rb : Nat} {a : Option Addr} {cap : Nat} {ws : List W3} {sz : Nat} {w : World} {p1 : Nat} {w' : World} {x : A} {j : Nat} (h : Grown rb a cap ws sz w p1 w' x j) : Grown rb a cap ws sz w p1 w'.drew x j :=
 h.on (Step.refl rb w').drew h.rd.drew
/-- Two trees are joined, the new one lies where the first lay. -/
theorem Grown.join {rb : Nat} {a : Option Addr} {cap : Nat} {ws : List W3} {sz : Nat} {w : World} {p1 : Nat} {w1 w2 : World} {x y : A} {j j2 : Nat} (h : Grown rb a cap ws sz w p1 w1 x j) (s : Step rb w1 w2) (r : Rd w2 rb a cap ws j2 sz)
    (hy : Sits w2 y) (hn : New w1.heap.size y) (k : Int) (cs : Array Value) (hcs : (cellsL [x, y]).toArray = cs) :
    Grown rb a cap ws sz w p1 ((put4 w2 p1 (.int .i64 k) (.string ⟨#[]⟩) (.int .i64 0) (.slice (some ⟨w2.heap.size, 0, none⟩) 2 2)).alloc (.cells cs 26)) (.node k ⟨#[]⟩ 0 (some ⟨w2.heap.size, 0, none⟩) 2 [x, y]) j2 := by
 have h2 := h.on s r
 have hp1 := h.plt
 have hp := h2.plt
 have hl := h.lt
 have hr := h.rlt
 have lx := Sits.lt x h2.sits
 have ly := Sits.lt y hy
 have lx1 := Sits.lt x h.sits
 have hN : NewL (w.heap.size + 1) [x, y] := NewL.snoc (xs := [x]) (n1 := w1.heap.size) (NewL.one h.new) (fun b hb => lx1 b (by rwa [feet_one] at hb)) hn (by omega)
 obtain ⟨u0, u1, u2, u3, hu⟩ : ∃ u0 u1 u2 u3, x.cells.toArray = #[u0, u1, u2, u3] := by cases x; exact ⟨_, _, _, _, rfl⟩
 have hh := h2.here
 rw [hu] at hh
 generalize hW : put4 w2 p1 (.int .i64 k) (.string ⟨#[]⟩) (.int .i64 0) (.slice (some ⟨w2.heap.size, 0, none⟩) 2 2) = W
 have hz : W.heap.size = w2.heap.size := by rw [← hW]; exact put4_size _ _ _ _ _ _
 have hno : ∀ q, q ≠ p1 → W.heap[q]? = w2.heap[q]? := fun q hq => by rw [← hW]; exact put4_other _ _ _ _ hq
 have hat := put4_at hh (.int .i64 k) (.string ⟨#[]⟩) (.int .i64 0) (.slice (some ⟨w2.heap.size, 0, none⟩) 2 2)
 rw [hW] at hat
 have hf : ∀ q, q ∈ feet [x, y] → q ∈ x.foot ∨ q ∈ y.foot := fun q hq => by simpa [feet] using hq
 refine ⟨?_, ?_, Sits.node (by decide) (by simp [maxLen]) (⟨Sits.stay x (fun q hq => ?_) h2.sits, Sits.stay y (fun q hq => ?_) hy, trivial⟩) (cs := cs) ?_ (fun i v hv => by subst hcs; simpa using hv), New.node hN (by omega) (fun q => ?_), ?_, ?_, ?_, hl, hr⟩
 ·rw [Lib.alloc_old _ _ _ (by omega)]
  exact hat
 ·rw [Lib.alloc_old _ _ _ (by omega), hno _ (by omega)]
  exact h2.res
 ·rw [Lib.alloc_old _ _ _ (by rw [hz]; exact lx q hq), hno q (fun e => h.off (e ▸ hq))]
 ·rw [Lib.alloc_old _ _ _ (by rw [hz]; exact ly q hq), hno q (by have := hn.2 q hq; omega)]
 ·rw [← hz]; exact heap_alloc_new W _
 ·rcases hf _ q with q | q
  ·have := lx _ q; omega
  ·have := ly _ q; omega
 ·simp only [A.foot, List.length_cons, blockOf]
  intro q
  rw [List.mem_append] at q
  rcases q with q | q
  ·simp at q; omega
  ·rcases hf _ q with q | q
   ·exact h.off q
   ·have := hn.2 _ q; omega
 ·refine Rd.alloc ?_ _
  rw [← hW]; exact put4_rd r (by omega) _ _ _ _
 ·refine Step.alloc ?_ _
  rw [← hW]; exact put4_step h2.step (by omega) _ _ _ _
/-- The first tree is laid into a new block. -/
theorem Grown.first {rb : Nat} {a : Option Addr} {cap : Nat} {ws : List W3} {sz : Nat} {w w1 : World} {x : A} {j n : Nat} (hP : w1.heap[w.heap.size]? = some (.cells #[.int .i64 0, .string ⟨#[]⟩, .int .i64 0, .slice none 0 0] 26 (0, 0)))
    (hx : Sits w1 x) (hn : New n x) (hlt : w.heap.size < n) (r : Rd w1 rb a cap ws j sz) (s : Step rb w w1) (hr : rb < w.heap.size) (cs : Array Value) (hcs : x.cells.toArray = cs) : Grown rb a cap ws sz w w1.heap.size (w1.alloc (.cells cs 26)) x j := by
 have z1 : w.heap.size < w1.heap.size := (Array.getElem?_eq_some_iff.1 hP).1
 have lx := Sits.lt x hx
 refine ⟨by rw [hcs]; exact heap_alloc_new w1 _, (Lib.alloc_old _ _ _ z1).trans hP, Sits.stay x (fun q hq => Lib.alloc_old _ _ _ (lx q hq)) hx, hn.mono (by omega), fun q => by have := lx _ q; omega, r.alloc _, s.alloc _, z1, hr⟩

set_option maxRecDepth 100000 in
set_option maxHeartbeats 4000000 in
theorem term_step {rb : Nat} {a : Option Addr} {cap : Nat} {ws : List W3} {sz f : Nat} (hO : ∀ g, g ≤ f → IOne rb a cap ws sz g) : ITerm rb a cap ws sz (f + 1) := by
 intro i w hf h
 have HM := mkHid (show mTerm ws (f + 1) i = (mOne ws f i).then_ fun x j => mTermL ws f x j by simp only [mTerm])
 rw [HM.out]
 have hO1 := fun w h => hO f (Nat.le_refl _) i w (by omega) h
 have ha := (adv ws f).1 i
 generalize mOne ws f i = r at hO1 ha ⊢
 have H1 := mkHid hO1
 have HO := mkHid hO
 have HA := mkHid h
 have hrb := h.lt
 clear HM hO h hO1
 cases r with
 | no p =>
   clear ha
   go_enter Tryz.func115, Tryz.ntmps115
   go_wp2_with fail
   refine (H1.out _ (HA.out.alloc _)).mono ?_
   rintro e w1 ⟨⟨m, rfl⟩, r1, s1⟩
   exact ⟨rfl, ⟨m, rfl⟩, r1, ((Step.refl rb w).alloc _).trans s1⟩
 | ok t j =>
   obtain ⟨hij, hjl⟩ := ha t j rfl
   clear ha
   show Calls _ _ _ _ (Post rb a cap ws sz w (mTermL ws f t j))
   generalize hR : mTermL ws f t j = R
   have HR := mkHid hR
   clear hR
   go_enter Tryz.func115, Tryz.ntmps115
   go_wp2_with fail
   refine (H1.out _ (HA.out.alloc _)).mono ?_
   rintro e w1 ⟨x, rfl, hx, hsx, hnx, r1, s1⟩
   have hG := Grown.first (s1.at (heap_alloc_new w _) (by omega)) hsx hnx (by simp) r1 (((Step.refl rb w).alloc _).trans s1) hrb _ rfl
   have hz : w.heap.size < w1.heap.size := (Array.getElem?_eq_some_iff.1 (s1.at (heap_alloc_new w _) (by omega))).1
   obtain ⟨xk, xs, xm, xa, xc, xkk⟩ := x
   have HG := mkHid hG
   have HX := mkHid hx
   clear hG hx hsx hnx r1 s1 H1 HA
   simp only [A.val]
   go_wp2
   go_loopw [] (fun w' => ∃ (x : A) (j g : Nat), Grown rb a cap ws sz w w1.heap.size w' x j ∧ g ≤ f ∧ 5 * (ws.length - j) + 1 ≤ g ∧ mTermL ws g x.erase j = R) (fun w' => ws.length - posOf rb w')
   case atStart => exact ⟨_, j, f, HG.out, Nat.le_refl _, by omega, by rw [HX.out]; exact HR.out⟩
   case round =>
    obtain ⟨x, j2, g, hG, hgf, hfu, hm⟩ := hrel
    obtain ⟨yk, ys, ym, ya, yc, ykk⟩ := x
    have G0 := mkHid hG
    have M0 := mkHid hm
    have R0 := mkHid hG.rd
    have hpos := hG.rd.pos
    have HPo := mkHid hpos
    clear hG hm hpos HG HX HR
    by_cases hw : isW ws j2 ⟨#[42]⟩ = true
    ·obtain ⟨g1, rfl⟩ : ∃ g1, g = g1 + 1 := ⟨g - 1, by omega⟩
     have hjl2 := isW_lt hw
     have hm : (mOne ws g1 (j2 + 1)).then_ (fun y j => mTermL ws g1 (.node 8 nil_ 0 [(A.node yk ys ym ya yc ykk).erase, y]) j) = R := by
      have := M0.out
      simp only [mTermL] at this
      rw [if_pos hw] at this
      exact this
     have hO1 := fun w h => HO.out g1 (by omega) (j2 + 1) w (by omega) h
     have ha := (adv ws g1).1 (j2 + 1)
     have HT := mkHid (fun w h => has_yes rb a cap ws j2 sz ⟨#[42]⟩ w h hw)
     generalize mOne ws g1 (j2 + 1) = r at hm hO1 ha
     have H1 := mkHid hO1
     clear hO1 M0 hw
     go_wp2_with fail
     refine (HT.out _ R0.out).mono ?_
     rintro e w2 ⟨rfl, r2, s2⟩
     have G2 := mkHid (G0.out.on s2 r2)
     clear r2 s2 HT
     cases r with
     | no p =>
       have HR : Hid (R = .no p) := hm.symm
       clear hm ha
       obtain ⟨d0, d1, d2, d3, e0, e1, e2, e3⟩ := four_of (show w2.heap[w1.heap.size]? = some (.cells #[.int .i64 yk, .string ys, .int .i64 ym, .slice ya ykk.length yc] 26 (0, 0)) from G2.out.here)
       go_wp2
       refine wp_region_any (by kernel_rfl) ?_
       change wpAny _ _ _ _ _ _ _ (World.drew _)
       refine wpAny_take (i := 1) (v := ?v1) rfl (by kernel_rfl) (by kernel_rfl) (by kernel_rfl) (fun _ _ _ h => h) (Or.inl ⟨by rfl, ?hy1⟩) ?rest1
       case hy1 => intro w; go_simp; try with_reducible rfl
       refine wpAny_ready (rs := [0, 2]) (by kernel_rfl) (by simp) ?_
       refine AllReady.cons rfl (fun K hK => ?_) ?_
       ·go_simp
        refine hK _ _ ?_
        clear hK K
        refine wpAny_ready (rs := [2]) (by kernel_rfl) (by simp) ?_
        refine AllReady.cons rfl (fun K hK => ?_) AllReady.nil
        go_simp
        refine (H1.out _ G2.out.rd.drew).mono ?_
        rintro e w3 ⟨⟨m, rfl⟩, r3, s3⟩
        exact ⟨rfl, by rw [HR.out]; exact ⟨⟨m, rfl⟩, r3, G2.out.step.drew.trans s3⟩⟩
       ·refine AllReady.cons rfl (fun K hK => ?_) AllReady.nil
        go_simp
        refine (H1.out _ G2.out.rd.drew).mono ?_
        rintro e w3 ⟨⟨m, rfl⟩, r3, s3⟩
        exact ⟨rfl, by rw [HR.out]; exact ⟨⟨m, rfl⟩, r3, G2.out.step.drew.trans s3⟩⟩
     | ok y j3 =>
       obtain ⟨hj3, hj3l⟩ := ha y j3 rfl
       have HR : Hid (mTermL ws g1 (.node 8 nil_ 0 [(A.node yk ys ym ya yc ykk).erase, y]) j3 = R) := hm
       clear hm ha
       obtain ⟨d0, d1, d2, d3, e0, e1, e2, e3⟩ := four_of (show w2.heap[w1.heap.size]? = some (.cells #[.int .i64 yk, .string ys, .int .i64 ym, .slice ya ykk.length yc] 26 (0, 0)) from G2.out.here)
       have hp2 := G2.out.plt
       go_wp2
       go_region_with (first | (go_at_call 127; refine (H1.out _ G2.out.rd.drew).mono ?_; rintro e w3 ⟨z, rfl, hz3, hsz, hnz, r3, s3⟩; obtain ⟨zk, zs, zm, za, zc, zkk⟩ := z; simp only [A.val]; obtain ⟨b0, b1, b2, b3, f0, f1, f2, f3⟩ := four_of (show w3.heap[w1.heap.size]? = some (.cells #[.int .i64 yk, .string ys, .int .i64 ym, .slice ya ykk.length yc] 26 (0, 0)) from (G2.out.drew.on s3 r3).here); have hp3 : w1.heap.size < w3.heap.size := (G2.out.drew.on s3 r3).plt; have G3 := mkHid (G2.out.drew.join s3 r3 hsz hnz 8 _ rfl); have HZ := mkHid hz3; clear hz3 hsz hnz r3 s3))
       all_goals
        go_wp2
        go_roundw
        case rel => exact ⟨_, j3, g1, G3.out, by omega, by omega, by rw [erase2, HZ.out]; exact HR.out⟩
        case measure => rw [HPo.out]; exact Nat.lt_of_le_of_lt (Nat.le_of_eq (congrArg (fun q => ws.length - q) G3.out.rd.pos)) (by omega)
    ·have HT := mkHid (fun w h => has_no rb a cap ws j2 sz ⟨#[42]⟩ w h (by simpa using hw))
     have HR : Hid (R = .ok (A.node yk ys ym ya yc ykk).erase j2) := by
      obtain ⟨g1, rfl⟩ : ∃ g1, g = g1 + 1 := ⟨g - 1, by omega⟩
      have := M0.out
      simp only [mTermL] at this
      rw [if_neg hw] at this
      exact this.symm
     clear M0 hw
     go_wp2_with fail
     refine (HT.out _ R0.out).mono ?_
     rintro e w2 ⟨rfl, r2, s2⟩
     have G2 := mkHid (G0.out.on s2 r2)
     clear r2 s2 HT
     obtain ⟨d0, d1, d2, d3, _⟩ := four_of (show w2.heap[w1.heap.size]? = some (.cells #[.int .i64 yk, .string ys, .int .i64 ym, .slice ya ykk.length yc] 26 (0, 0)) from G2.out.here)
     obtain ⟨c0, c1, c2, c3, f0, f1, f2, f3⟩ := four_of G2.out.res
     go_wp2
     obtain ⟨q0, q1, q2, q3⟩ := put4_cells0 G2.out.res (.int .i64 yk) (.string ys) (.int .i64 ym) (.slice ya ykk.length yc)
     exact bodyPost_ret (v := (A.node yk ys ym ya yc ykk).val) (by simp [results, Tryz.results115, go_sem, q0, q1, q2, q3, A.val]) rfl (by rw [HR.out]; exact end_tree _ _ _ _ _ G2.out.rd hrb G2.out.step rfl G2.out.sits G2.out.new (by omega))
end Go.Proofs.YtjmjmdmnejnlbaaGreatDoor
namespace Go.Proofs.YtjmjmdmnejnlbaaGreatDoor
open Go.RowKit
open Pl

set_option maxRecDepth 100000 in
set_option maxHeartbeats 8000000 in
theorem expr_step {rb : Nat} {a : Option Addr} {cap : Nat} {ws : List W3} {sz f : Nat} (hO : ∀ g, g ≤ f → ITerm rb a cap ws sz g) : IExpr rb a cap ws sz (f + 1) := by
 intro i w hf h
 have HM := mkHid (show mExpr ws (f + 1) i = (mTerm ws f i).then_ fun x j => mExprL ws f x j by simp only [mExpr])
 rw [HM.out]
 have hO1 := fun w h => hO f (Nat.le_refl _) i w (by omega) h
 have ha := (adv ws f).2.1 i
 generalize mTerm ws f i = r at hO1 ha ⊢
 have H1 := mkHid hO1
 have HO := mkHid hO
 have HA := mkHid h
 have hrb := h.lt
 clear HM hO h hO1
 cases r with
 | no p =>
   clear ha
   go_enter Tryz.func103, Tryz.ntmps103
   go_wp2_with fail
   refine (H1.out _ (HA.out.alloc _)).mono ?_
   rintro e w1 ⟨⟨m, rfl⟩, r1, s1⟩
   exact ⟨rfl, ⟨m, rfl⟩, r1, ((Step.refl rb w).alloc _).trans s1⟩
 | ok t j =>
   obtain ⟨hij, hjl⟩ := ha t j rfl
   clear ha
   show Calls _ _ _ _ (Post rb a cap ws sz w (mExprL ws f t j))
   generalize hR : mExprL ws f t j = R
   have HR := mkHid hR
   clear hR
   go_enter Tryz.func103, Tryz.ntmps103
   go_wp2_with fail
   refine (H1.out _ (HA.out.alloc _)).mono ?_
   rintro e w1 ⟨x, rfl, hx, hsx, hnx, r1, s1⟩
   have hG := Grown.first (s1.at (heap_alloc_new w _) (by omega)) hsx hnx (by simp) r1 (((Step.refl rb w).alloc _).trans s1) hrb _ rfl
   have hz : w.heap.size < w1.heap.size := (Array.getElem?_eq_some_iff.1 (s1.at (heap_alloc_new w _) (by omega))).1
   obtain ⟨xk, xs, xm, xa, xc, xkk⟩ := x
   have HG := mkHid hG
   have HX := mkHid hx
   clear hG hx hsx hnx r1 s1 H1 HA
   simp only [A.val]
   go_wp2
   go_loopw [] (fun w' => ∃ (x : A) (j g : Nat), Grown rb a cap ws sz w w1.heap.size w' x j ∧ g ≤ f ∧ 5 * (ws.length - j) + 1 ≤ g ∧ mExprL ws g x.erase j = R) (fun w' => ws.length - posOf rb w')
   case atStart => exact ⟨_, j, f, HG.out, Nat.le_refl _, by omega, by rw [HX.out]; exact HR.out⟩
   case round =>
    obtain ⟨x, j2, g, hG, hgf, hfu, hm⟩ := hrel
    obtain ⟨yk, ys, ym, ya, yc, ykk⟩ := x
    have G0 := mkHid hG
    have M0 := mkHid hm
    have R0 := mkHid hG.rd
    have hpos := hG.rd.pos
    have HPo := mkHid hpos
    clear hG hm hpos HG HX HR
    obtain ⟨g1, rfl⟩ : ∃ g1, g = g1 + 1 := ⟨g - 1, by omega⟩
    by_cases hw : isW ws j2 ⟨#[43]⟩ = true
    ·have hjl2 := isW_lt hw
     have hm : (mTerm ws g1 (j2 + 1)).then_ (fun y j => mExprL ws g1 (.node 6 nil_ 0 [(A.node yk ys ym ya yc ykk).erase, y]) j) = R := by
      have := M0.out
      simp only [mExprL] at this
      rw [if_pos hw] at this
      exact this
     have hO1 := fun w h => HO.out g1 (by omega) (j2 + 1) w (by omega) h
     have ha := (adv ws g1).2.1 (j2 + 1)
     have T2 := mkHid (fun w h => has_yes rb a cap ws j2 sz ⟨#[43]⟩ w h hw)
     generalize mTerm ws g1 (j2 + 1) = r at hm hO1 ha
     have H1 := mkHid hO1
     clear hO1 M0 hw
     go_wp2_with fail
     refine (T2.out _ G0.out.rd).mono ?_
     rintro e w2 ⟨rfl, r2, s2⟩
     have G2 := mkHid (G0.out.on s2 r2)
     clear r2 s2 T2
     cases r with
     | no p =>
       have HR : Hid (R = .no p) := hm.symm
       clear hm ha
       obtain ⟨d0, d1, d2, d3, e0, e1, e2, e3⟩ := four_of (show w2.heap[w1.heap.size]? = some (.cells #[.int .i64 yk, .string ys, .int .i64 ym, .slice ya ykk.length yc] 26 (0, 0)) from G2.out.here)
       go_wp2
       refine wp_region_any (by kernel_rfl) ?_
       change wpAny _ _ _ _ _ _ _ (World.drew _)
       refine wpAny_take (i := 1) (v := ?v60) rfl (by kernel_rfl) (by kernel_rfl) (by kernel_rfl) (fun _ _ _ h => h) (Or.inl ⟨by rfl, ?hy60⟩) ?rest60
       case hy60 => intro w; go_simp; try with_reducible rfl
       refine wpAny_ready (rs := [0, 2]) (by kernel_rfl) (by simp) ?_
       refine AllReady.cons rfl (fun K hK => ?_) ?_
       ·go_simp
        refine hK _ _ ?_
        clear hK K
        refine wpAny_ready (rs := [2]) (by kernel_rfl) (by simp) ?_
        refine AllReady.cons rfl (fun K hK => ?_) AllReady.nil
        go_simp
        refine (H1.out _ G2.out.rd.drew).mono ?_
        rintro e w3 ⟨⟨m, rfl⟩, r3, s3⟩
        exact ⟨rfl, by rw [HR.out]; exact ⟨⟨m, rfl⟩, r3, G2.out.step.drew.trans s3⟩⟩
       ·refine AllReady.cons rfl (fun K hK => ?_) AllReady.nil
        go_simp
        refine (H1.out _ G2.out.rd.drew).mono ?_
        rintro e w3 ⟨⟨m, rfl⟩, r3, s3⟩
        exact ⟨rfl, by rw [HR.out]; exact ⟨⟨m, rfl⟩, r3, G2.out.step.drew.trans s3⟩⟩
     | ok y j3 =>
       obtain ⟨hj3, hj3l⟩ := ha y j3 rfl
       have HR : Hid (mExprL ws g1 (.node 6 nil_ 0 [(A.node yk ys ym ya yc ykk).erase, y]) j3 = R) := hm
       clear hm ha
       obtain ⟨d0, d1, d2, d3, e0, e1, e2, e3⟩ := four_of (show w2.heap[w1.heap.size]? = some (.cells #[.int .i64 yk, .string ys, .int .i64 ym, .slice ya ykk.length yc] 26 (0, 0)) from G2.out.here)
       have hp2 := G2.out.plt
       go_wp2
       go_region_with (first | (go_at_call 115; refine (H1.out _ G2.out.rd.drew).mono ?_; rintro e w3 ⟨z, rfl, hz3, hsz, hnz, r3, s3⟩; obtain ⟨zk, zs, zm, za, zc, zkk⟩ := z; simp only [A.val]; obtain ⟨b0, b1, b2, b3, f0, f1, f2, f3⟩ := four_of (show w3.heap[w1.heap.size]? = some (.cells #[.int .i64 yk, .string ys, .int .i64 ym, .slice ya ykk.length yc] 26 (0, 0)) from (G2.out.drew.on s3 r3).here); have hp3 : w1.heap.size < w3.heap.size := (G2.out.drew.on s3 r3).plt; have G3 := mkHid (G2.out.drew.join s3 r3 hsz hnz 6 _ rfl); have HZ := mkHid hz3; clear hz3 hsz hnz r3 s3))
       all_goals
        go_wp2
        go_roundw
        case rel => exact ⟨_, j3, g1, G3.out, by omega, by omega, by rw [erase2, HZ.out]; exact HR.out⟩
        case measure => rw [HPo.out]; exact Nat.lt_of_le_of_lt (Nat.le_of_eq (congrArg (fun q => ws.length - q) G3.out.rd.pos)) (by omega)
    ·have hp : isW ws j2 ⟨#[43]⟩ = false := by simpa using hw
     clear hw
     by_cases hw : isW ws j2 ⟨#[45]⟩ = true
     ·have hjl2 := isW_lt hw
      have hm : (mTerm ws g1 (j2 + 1)).then_ (fun y j => mExprL ws g1 (.node 7 nil_ 0 [(A.node yk ys ym ya yc ykk).erase, y]) j) = R := by
       have := M0.out
       simp only [mExprL] at this
       rw [if_neg (by rw [hp]; decide), if_pos hw] at this
       exact this
      have hO1 := fun w h => HO.out g1 (by omega) (j2 + 1) w (by omega) h
      have ha := (adv ws g1).2.1 (j2 + 1)
      have T8 := mkHid (fun w h => has_no rb a cap ws j2 sz ⟨#[43]⟩ w h hp)
      have T2 := mkHid (fun w h => has_yes rb a cap ws j2 sz ⟨#[45]⟩ w h hw)
      generalize mTerm ws g1 (j2 + 1) = r at hm hO1 ha
      have H1 := mkHid hO1
      clear hO1 M0 hw hp
      go_wp2_with fail
      refine (T8.out _ G0.out.rd).mono ?_
      rintro e w8 ⟨rfl, r2, s2⟩
      have G8 := mkHid (G0.out.on s2 r2)
      clear r2 s2 T8
      go_wp2_with fail
      refine (T2.out _ G8.out.rd).mono ?_
      rintro e w2 ⟨rfl, r2, s2⟩
      have G2 := mkHid (G8.out.on s2 r2)
      clear r2 s2 T2
      cases r with
      | no p =>
        have HR : Hid (R = .no p) := hm.symm
        clear hm ha
        obtain ⟨d0, d1, d2, d3, e0, e1, e2, e3⟩ := four_of (show w2.heap[w1.heap.size]? = some (.cells #[.int .i64 yk, .string ys, .int .i64 ym, .slice ya ykk.length yc] 26 (0, 0)) from G2.out.here)
        go_wp2
        refine wp_region_any (by kernel_rfl) ?_
        change wpAny _ _ _ _ _ _ _ (World.drew _)
        refine wpAny_take (i := 1) (v := ?v70) rfl (by kernel_rfl) (by kernel_rfl) (by kernel_rfl) (fun _ _ _ h => h) (Or.inl ⟨by rfl, ?hy70⟩) ?rest70
        case hy70 => intro w; go_simp; try with_reducible rfl
        refine wpAny_ready (rs := [0, 2]) (by kernel_rfl) (by simp) ?_
        refine AllReady.cons rfl (fun K hK => ?_) ?_
        ·go_simp
         refine hK _ _ ?_
         clear hK K
         refine wpAny_ready (rs := [2]) (by kernel_rfl) (by simp) ?_
         refine AllReady.cons rfl (fun K hK => ?_) AllReady.nil
         go_simp
         refine (H1.out _ G2.out.rd.drew).mono ?_
         rintro e w3 ⟨⟨m, rfl⟩, r3, s3⟩
         exact ⟨rfl, by rw [HR.out]; exact ⟨⟨m, rfl⟩, r3, G2.out.step.drew.trans s3⟩⟩
        ·refine AllReady.cons rfl (fun K hK => ?_) AllReady.nil
         go_simp
         refine (H1.out _ G2.out.rd.drew).mono ?_
         rintro e w3 ⟨⟨m, rfl⟩, r3, s3⟩
         exact ⟨rfl, by rw [HR.out]; exact ⟨⟨m, rfl⟩, r3, G2.out.step.drew.trans s3⟩⟩
      | ok y j3 =>
        obtain ⟨hj3, hj3l⟩ := ha y j3 rfl
        have HR : Hid (mExprL ws g1 (.node 7 nil_ 0 [(A.node yk ys ym ya yc ykk).erase, y]) j3 = R) := hm
        clear hm ha
        obtain ⟨d0, d1, d2, d3, e0, e1, e2, e3⟩ := four_of (show w2.heap[w1.heap.size]? = some (.cells #[.int .i64 yk, .string ys, .int .i64 ym, .slice ya ykk.length yc] 26 (0, 0)) from G2.out.here)
        have hp2 := G2.out.plt
        go_wp2
        go_region_with (first | (go_at_call 115; refine (H1.out _ G2.out.rd.drew).mono ?_; rintro e w3 ⟨z, rfl, hz3, hsz, hnz, r3, s3⟩; obtain ⟨zk, zs, zm, za, zc, zkk⟩ := z; simp only [A.val]; obtain ⟨b0, b1, b2, b3, f0, f1, f2, f3⟩ := four_of (show w3.heap[w1.heap.size]? = some (.cells #[.int .i64 yk, .string ys, .int .i64 ym, .slice ya ykk.length yc] 26 (0, 0)) from (G2.out.drew.on s3 r3).here); have hp3 : w1.heap.size < w3.heap.size := (G2.out.drew.on s3 r3).plt; have G3 := mkHid (G2.out.drew.join s3 r3 hsz hnz 7 _ rfl); have HZ := mkHid hz3; clear hz3 hsz hnz r3 s3))
        all_goals
         go_wp2
         go_roundw
         case rel => exact ⟨_, j3, g1, G3.out, by omega, by omega, by rw [erase2, HZ.out]; exact HR.out⟩
         case measure => rw [HPo.out]; exact Nat.lt_of_le_of_lt (Nat.le_of_eq (congrArg (fun q => ws.length - q) G3.out.rd.pos)) (by omega)
     ·have T8 := mkHid (fun w h => has_no rb a cap ws j2 sz ⟨#[43]⟩ w h hp)
      have T2 := mkHid (fun w h => has_no rb a cap ws j2 sz ⟨#[45]⟩ w h (by simpa using hw))
      have HR : Hid (R = .ok (A.node yk ys ym ya yc ykk).erase j2) := by
       have := M0.out
       simp only [mExprL] at this
       rw [if_neg (by rw [hp]; decide), if_neg hw] at this
       exact this.symm
      clear M0 hw hp
      go_wp2_with fail
      refine (T8.out _ G0.out.rd).mono ?_
      rintro e w8 ⟨rfl, r2, s2⟩
      have G8 := mkHid (G0.out.on s2 r2)
      clear r2 s2 T8
      go_wp2_with fail
      refine (T2.out _ G8.out.rd).mono ?_
      rintro e w2 ⟨rfl, r2, s2⟩
      have G2 := mkHid (G8.out.on s2 r2)
      clear r2 s2 T2
      obtain ⟨d0, d1, d2, d3, _⟩ := four_of (show w2.heap[w1.heap.size]? = some (.cells #[.int .i64 yk, .string ys, .int .i64 ym, .slice ya ykk.length yc] 26 (0, 0)) from G2.out.here)
      obtain ⟨c0, c1, c2, c3, f0, f1, f2, f3⟩ := four_of G2.out.res
      go_wp2
      obtain ⟨q0, q1, q2, q3⟩ := put4_cells0 G2.out.res (.int .i64 yk) (.string ys) (.int .i64 ym) (.slice ya ykk.length yc)
      exact bodyPost_ret (v := (A.node yk ys ym ya yc ykk).val) (by simp [results, Tryz.results103, go_sem, q0, q1, q2, q3, A.val]) rfl (by rw [HR.out]; exact end_tree _ _ _ _ _ G2.out.rd hrb G2.out.step rfl G2.out.sits G2.out.new (by omega))
/-- The program's reader, at expressions. -/
theorem expr_all {rb : Nat} {a : Option Addr} {cap : Nat} {ws : List W3} {sz : Nat} (he : Env ws) (f : Nat) : ∀ g, g ≤ f → IOne rb a cap ws sz g ∧ ITerm rb a cap ws sz g ∧ IExpr rb a cap ws sz g := by
 induction f with
 | zero =>
   intro g hg
   have : g = 0 := by omega
   subst this
   exact ⟨fun i w h => by omega, fun i w h => by omega, fun i w h => by omega⟩
 | succ f ih =>
   intro g hg
   by_cases q : g ≤ f
   ·exact ih g q
   ·have : g = f + 1 := by omega
    subst this
    exact ⟨one_step he (ih f (Nat.le_refl _)).1 (ih f (Nat.le_refl _)).2.2, term_step fun g hg => (ih g hg).1, expr_step fun g hg => (ih g hg).2.1⟩
end Go.Proofs.YtjmjmdmnejnlbaaGreatDoor
namespace Go.Proofs.YtjmjmdmnejnlbaaGreatDoor
open Go.RowKit
open Pl

/-- A node lies in block p1; its list, of trees that own their memory, in a row of its own; the result's variable is still zero. -/
structure Stem (rb : Nat) (a : Option Addr) (cap : Nat) (ws : List W3) (sz : Nat) (w : World) (p1 : Nat) (k : Int) (s : ByteArray) (w' : World) (els : List A) (sa : Option Addr) (sc : Nat) (j : Nat) : Prop where
 here : w'.heap[p1]? = some (.cells #[.int .i64 k, .string s, .int .i64 0, .slice sa els.length sc] 26 (0, 0))
 res : w'.heap[w.heap.size]? = some (.cells #[.int .i64 0, .string ⟨#[]⟩, .int .i64 0, .slice none 0 0] 26 (0, 0))
 own : w'.ownsRow (p1 + 1) 26 4 (.slice sa els.length sc) els.length (cellsL els)
 sits : SitsL w' els
 new : NewL (p1 + 1) els
 apart : ∀ g, (Value.slice sa els.length sc).ownBlock = some g → g ∉ feet els
 rd : Rd w' rb a cap ws j sz
 step : Step rb w w'
 lt : w.heap.size < p1
 rlt : rb < w.heap.size
section
variable {rb : Nat} {a : Option Addr} {cap : Nat} {ws : List W3} {sz : Nat} {w : World} {p1 : Nat} {k : Int} {s : ByteArray} {w' : World} {els : List A} {sa : Option Addr} {sc : Nat} {j : Nat}
theorem Stem.plt (h : Stem rb a cap ws sz w p1 k s w' els sa sc j) : p1 < w'.heap.size := (Array.getElem?_eq_some_iff.1 h.here).1
theorem Stem.on {w2 : World} {j2 : Nat} (h : Stem rb a cap ws sz w p1 k s w' els sa sc j) (st : Step rb w' w2) (r : Rd w2 rb a cap ws j2 sz) : Stem rb a cap ws sz w p1 k s w2 els sa sc j2 := by
 have hr := h.rlt
 have hl := h.lt
 refine ⟨st.at h.here (by omega), st.at h.res (by omega), h.own.kept st (.inr fun e => ?_), st.sitsL h.sits (fun q hq => by have := h.new.2 q hq; omega), h.new, h.apart, r, h.step.trans st, hl, hr⟩
 have := (h.own.lt rb e).1
 omega
theorem Stem.drew (h : Stem rb a cap ws sz w p1 k s w' els sa sc j) : Stem rb a cap ws sz w p1 k s w'.drew els sa sc j := h.on (Step.refl rb w').drew h.rd.drew
/-- One tree more. -/
theorem Stem.push {w3 w4 : World} {x : A} {j2 g c2 : Nat} (h : Stem rb a cap ws sz w p1 k s w' els sa sc j) (st : Step rb w' w3) (r : Rd w3 rb a cap ws j2 sz) (hx : Sits w3 x) (hn : New w'.heap.size x) (cs : Array Value)
    (hown : w4.ownsRow (p1 + 1) 26 4 (.slice (some ⟨g, 0, none⟩) (els.length + 1) c2) (els.length + 1) (cellsL els ++ x.cells)) (hgrow : (w3.alloc (.cells cs 26)).grownBy w4 (Value.slice sa els.length sc).ownBlock)
    (hat : (Value.slice sa els.length sc).ownBlock = some g ∨ g = w3.heap.size + 1) :
    Stem rb a cap ws sz w p1 k s (w4.setCell ⟨p1, 3, none⟩ (.slice (some ⟨g, 0, none⟩) (els.length + 1) c2)) (els ++ [x]) (some ⟨g, 0, none⟩) c2 j2 := by
 have h3 := h.on st r
 have hr := h.rlt
 have hl := h.lt
 have hp := h3.plt
 have hp0 := h.plt
 have lx := Sits.lt x hx
 have le := SitsL.lt h3.sits
 have le0 := SitsL.lt h.sits
 have hol := h.own.lt
 have hlen : (els ++ [x]).length = els.length + 1 := by simp
 have hcl : cellsL (els ++ [x]) = cellsL els ++ x.cells := by rw [cellsL_append]; simp [cellsL]
 -- what the append leaves
 have keep : ∀ q, q < w3.heap.size → (∀ g', (Value.slice sa els.length sc).ownBlock = some g' → q ≠ g') → w4.heap[q]? = w3.heap[q]? := fun q hq hne => by
  rw [hgrow.block q (by simp; omega) (fun e => hne q e.symm rfl), Lib.alloc_old _ _ _ hq]
 have gg : p1 + 1 ≤ g := by
  have := (hown.lt g rfl).1
  exact this
 have set : ∀ q, q ≠ p1 → (w4.setCell ⟨p1, 3, none⟩ (.slice (some ⟨g, 0, none⟩) (els.length + 1) c2)).heap[q]? = w4.heap[q]? := fun q hq => Below.heap_setCell _ _ _ _ hq
 have p1k := keep p1 hp (fun g' e => by have := (hol g' e).1; omega)
 refine ⟨?_, ?_, ?_, ?_, ?_, ?_, ?_, ?_, hl, hr⟩
 ·have := heap_setCell_same w4 p1 3 _ 26 (.slice (some ⟨g, 0, none⟩) (els.length + 1) c2) (p1k.trans h3.here)
  rw [this, hlen]; rfl
 ·rw [set _ (by omega), keep _ (by omega) (fun g' e => by have := (hol g' e).1; omega)]
  exact h3.res
 ·rw [hlen, hcl]
  exact hown.kept (row := some p1) ⟨rfl, rfl, rfl, by simp [World.setCell], fun q _ hq => set q (fun e => hq (by rw [e]))⟩ (.inr fun e => by simp [Value.ownBlock] at e; omega)
 ·refine sitsL_snoc (h3.sits.stay fun q hq => ?_) (Sits.stay x (fun q hq => ?_) hx)
  ·rw [set q (by have := h.new.2 q hq; omega), keep q (le q hq) (fun g' e => fun e2 => h.apart g' e (e2 ▸ hq))]
  ·rw [set q (by have := hn.2 q hq; omega), keep q (lx q hq) (fun g' e => by have := (hol g' e).2; have := hn.2 q hq; omega)]
 ·exact NewL.snoc h.new le0 hn (by omega)
 ·intro g' e hq
  rw [hlen] at e
  simp [Value.ownBlock] at e
  subst e
  rw [feet_append, feet_one, List.mem_append] at hq
  rcases hat with hat | hat
  ·rcases hq with hq | hq
   ·exact h.apart g hat hq
   ·have := (hol g hat).2
    have := hn.2 g hq
    omega
  ·rcases hq with hq | hq
   ·have := le g hq; omega
   ·have := lx g hq; omega
 ·refine Rd.setCell ?_ (show rb < p1 by omega) _
  refine (r.alloc (.cells cs 26)).keep ⟨hgrow.os, hgrow.tape, hgrow.output, hgrow.size, fun q hq => hgrow.block q (by have := r.lt; simp; omega) (fun e => by have := (hol q e.symm).1; omega)⟩
 ·have h4 : Step rb w w4 := ⟨hgrow.os.trans h3.step.os, hgrow.tape.trans h3.step.tape, hgrow.output.trans h3.step.output, by have := hgrow.size; have := h3.step.size; simp at *; omega, fun q hq hne => by
    have := h3.step.size
    rw [keep q (by omega) (fun g' e => by have := (hol g' e).1; omega)]
    exact h3.step.block q hq hne⟩
  exact h4.setCell (.inl (show w.heap.size ≤ p1 by omega)) _
/-- What it is when it is done. -/
theorem Stem.tree (h : Stem rb a cap ws sz w p1 k s w' els sa sc j) (hs : s.size ≤ maxLen) (hn : els.length ≤ maxLen) : Sits w' (.node k s 0 sa sc els) ∧ New (w.heap.size + 1) (.node k s 0 sa sc els) := by
 have hl := h.lt
 rcases h.own.2 with ⟨e, h0⟩ | ⟨g, c, cur, e, hb, hg, h1, h2, h3, h4⟩
 ·have : els = [] := List.eq_nil_of_length_eq_zero h0
  subst this
  exact ⟨Sits.leaf _ _ _ hs, New.leaf _ _ _ _ _ _⟩
 ·have ea : sa = some ⟨g, 0, none⟩ := by simp at e; exact e.1
  subst ea
  refine ⟨Sits.node hs hn h.sits hg (fun i v hv => ?_), New.node (h.new.mono (by omega)) (by omega) (h.apart g rfl)⟩
  rw [← h4, List.getElem?_take] at hv
  split at hv
  ·simpa using hv
  ·cases hv
theorem Stem.start {w1 : World} (hP : w1.heap[w.heap.size]? = some (.cells #[.int .i64 0, .string ⟨#[]⟩, .int .i64 0, .slice none 0 0] 26 (0, 0))) (r : Rd w1 rb a cap ws j sz) (st : Step rb w w1) (hr : rb < w.heap.size) (k : Int) (s : ByteArray) :
    Stem rb a cap ws sz w w1.heap.size k s (w1.alloc (.cells #[.int .i64 k, .string s, .int .i64 0, .slice none 0 0] 26)) [] none 0 j := by
 have z1 : w.heap.size < w1.heap.size := (Array.getElem?_eq_some_iff.1 hP).1
 exact ⟨heap_alloc_new w1 _, (Lib.alloc_old _ _ _ z1).trans hP, World.ownsRow_nil _ _ _ _, trivial, ⟨List.nodup_nil, fun b hb => (by cases hb)⟩, fun g e => (by cases e), r.alloc _, st.alloc _, z1, hr⟩
/-- Another kind. -/
theorem Stem.kind (h : Stem rb a cap ws sz w p1 k s w' els sa sc j) (k2 : Int) : Stem rb a cap ws sz w p1 k2 s (w'.setCell ⟨p1, 0, none⟩ (.int .i64 k2)) els sa sc j := by
 have hr := h.rlt
 have hl := h.lt
 have set : ∀ q, q ≠ p1 → (w'.setCell ⟨p1, 0, none⟩ (.int .i64 k2)).heap[q]? = w'.heap[q]? := fun q hq => Below.heap_setCell _ _ _ _ hq
 refine ⟨?_, (set _ (by omega)).trans h.res, h.own.kept (row := some p1) ⟨rfl, rfl, rfl, by simp [World.setCell], fun q _ hq => set q (fun e => hq (by rw [e]))⟩ (.inr fun e => by have := (h.own.lt p1 e).1; omega), h.sits.stay (fun q hq => set q (by have := h.new.2 q hq; omega)), h.new, h.apart, h.rd.setCell (show rb < p1 by omega) _, h.step.setCell (.inl (show w.heap.size ≤ p1 by omega)) _, hl, hr⟩
 have := heap_setCell_same w' p1 0 _ 26 (.int .i64 k2) h.here
 rw [this]; rfl
end
end Go.Proofs.YtjmjmdmnejnlbaaGreatDoor
namespace Go.Proofs.YtjmjmdmnejnlbaaGreatDoor
open Go.RowKit
open Pl

theorem relI_sign (s : ByteArray) (c : Nat) (hc : c < 6) (h : s = signI (11 + (c : Int))) : relI s = 11 + (c : Int) := by
 subst h
 rcases (by omega : c = 0 ∨ c = 1 ∨ c = 2 ∨ c = 3 ∨ c = 4 ∨ c = 5) with rfl | rfl | rfl | rfl | rfl | rfl <;> simp [signI, relI]
theorem relI_none (s : ByteArray) (h : ∀ c : Nat, c < 6 → s ≠ signI (11 + (c : Int))) : relI s = 0 := by
 have h0 := h 0 (by decide)
 have h1 := h 1 (by decide)
 have h2 := h 2 (by decide)
 have h3 := h 3 (by decide)
 have h4 := h 4 (by decide)
 have h5 := h 5 (by decide)
 simp [signI] at h0 h1 h2 h3 h4 h5
 simp [relI, h0, h1, h2, h3, h4, h5]
theorem sign_ne (c : Nat) (hc : c < 6) : signI (11 + (c : Int)) ≠ ⟨#[]⟩ := by
 rcases (by omega : c = 0 ∨ c = 1 ∨ c = 2 ∨ c = 3 ∨ c = 4 ∨ c = 5) with rfl | rfl | rfl | rfl | rfl | rfl <;> simp [signI]
theorem isW_iff {ws : List W3} {i : Nat} {s : ByteArray} (hs : s ≠ ⟨#[]⟩) : isW ws i s = true ↔ textW ws i = s := by
 constructor
 ·exact isW_text
 ·intro h
  by_cases q : i < ws.length
  ·rw [isW_of_text q]; simpa using h
  ·rw [textW_end (by omega)] at h; exact absurd h.symm hs
def ICond (rb : Nat) (a : Option Addr) (cap : Nat) (ws : List W3) (sz : Nat) (F : Nat) : Prop := ∀ (i : Nat) (w : World), Rd w rb a cap ws i sz →
 Calls Tryz.prog 101 #[.pointer (some ⟨rb, 0, none⟩)] w (Post rb a cap ws sz w (mCond ws F i))
set_option maxRecDepth 100000 in
set_option maxHeartbeats 8000000 in
theorem cond_all {rb : Nat} {a : Option Addr} {cap : Nat} {ws : List W3} {sz F : Nat} (hF : 5 * ws.length + 3 ≤ F) (hE : IExpr rb a cap ws sz F) : ICond rb a cap ws sz F := by
 intro i w h
 rw [show mCond ws F i = (mExpr ws F i).then_ fun x j => if relI (textW ws j) = 0 then .no j else (mExpr ws F (j + 1)).then_ fun y j2 => .ok (.node (relI (textW ws j)) nil_ 0 [x, y]) j2 from rfl]
 have hO1 := fun w h => hE i w (by omega) h
 generalize mExpr ws F i = r at hO1 ⊢
 have H1 := mkHid hO1
 have HA := mkHid h
 have hrb := h.lt
 have HE := mkHid hE
 clear h hO1 hE
 cases r with
 | no p =>
   go_enter Tryz.func101, Tryz.ntmps101
   go_wp2_with fail
   refine (H1.out _ (HA.out.alloc _)).mono ?_
   rintro e w1 ⟨⟨m, rfl⟩, r1, s1⟩
   exact ⟨rfl, ⟨m, rfl⟩, r1, ((Step.refl rb w).alloc _).trans s1⟩
 | ok t j =>
   simp only [Res.then_]
   show Calls _ _ _ _ (Post rb a cap ws sz w (if relI (textW ws j) = 0 then .no j else (mExpr ws F (j + 1)).then_ fun y j2 => .ok (.node (relI (textW ws j)) nil_ 0 [t, y]) j2))
   generalize hR : (if relI (textW ws j) = 0 then Res.no j else (mExpr ws F (j + 1)).then_ fun y j2 => .ok (.node (relI (textW ws j)) nil_ 0 [t, y]) j2) = R
   have HR := mkHid hR
   clear hR
   go_enter Tryz.func101, Tryz.ntmps101
   go_wp2_with fail
   refine (H1.out _ (HA.out.alloc _)).mono ?_
   rintro e w1 ⟨x, rfl, hx, hsx, hnx, r1, s1⟩
   have hG := Grown.first (s1.at (heap_alloc_new w _) (by omega)) hsx hnx (by simp) r1 (((Step.refl rb w).alloc _).trans s1) hrb _ rfl
   have hz : w.heap.size < w1.heap.size := (Array.getElem?_eq_some_iff.1 (s1.at (heap_alloc_new w _) (by omega))).1
   obtain ⟨yk, ys, ym, ya, yc, ykk⟩ := x
   have HG := mkHid hG
   have HX := mkHid hx
   clear hG hx hsx hnx r1 s1 H1 HA
   simp only [A.val]
   go_wp2
   go_loopw [4] (fun v w' => ∃ c : Nat, c ≤ 6 ∧ v = .int .i64 (11 + (c : Int)) ∧ Grown rb a cap ws sz w w1.heap.size w' (.node yk ys ym ya yc ykk) j ∧ ∀ d : Nat, d < c → textW ws j ≠ signI (11 + (d : Int))) (fun v _ => (17 - intOf v).toNat)
   case atStart => exact ⟨0, by omega, rfl, HG.out, fun d hd => by omega⟩
   case round =>
    obtain ⟨c, hc6, rfl, hG, hno⟩ := hrel
    have G0 := mkHid hG
    have HNO := mkHid hno
    clear hG hno HG
    by_cases hc : c < 6
    ·have hc16 : (11 + (c : Int)) ≤ 16 := by omega
     have T0 := mkHid (fun w => condSign_any (11 + (c : Int)) w)
     have HNE := mkHid (sign_ne c hc)
     have HREL := mkHid (fun h => relI_sign (textW ws j) c hc h)
     generalize hsg : signI (11 + (c : Int)) = sg at T0 HNE HREL
     have HSG := mkHid hsg
     clear hsg
     by_cases hw : isW ws j sg = true
     ·have hjl := isW_lt hw
      have hrel : relI (textW ws j) = 11 + (c : Int) := HREL.out (isW_text hw)
      have hm : (mExpr ws F (j + 1)).then_ (fun y j2 => .ok (.node (11 + (c : Int)) nil_ 0 [t, y]) j2) = R := by
       have := HR.out
       rw [if_neg (by rw [hrel]; omega), hrel] at this
       exact this
      have hO1 := fun w h => HE.out (j + 1) w (by omega) h
      have T1 := mkHid (fun w h => has_yes rb a cap ws j sz sg w h hw)
      generalize mExpr ws F (j + 1) = r at hm hO1
      have H1 := mkHid hO1
      clear hO1 hw hrel HR HREL HNE HSG HNO
      go_wp2_with fail
      refine (T0.out _).mono ?_
      rintro e w9 ⟨rfl, rfl⟩
      go_wp2_with fail
      refine (T1.out _ G0.out.rd).mono ?_
      rintro e w2 ⟨rfl, r2, s2⟩
      have G2 := mkHid (G0.out.on s2 r2)
      clear r2 s2 T1 T0
      obtain ⟨d0, d1, d2, d3, e0, e1, e2, e3⟩ := four_of (show w2.heap[w1.heap.size]? = some (.cells #[.int .i64 yk, .string ys, .int .i64 ym, .slice ya ykk.length yc] 26 (0, 0)) from G2.out.here)
      obtain ⟨c0, c1, c2, c3, f0, f1, f2, f3⟩ := four_of G2.out.res
      have hp2 := G2.out.plt
      cases r with
      | no p =>
        have HR : Hid (R = .no p) := hm.symm
        clear hm
        go_wp2
        refine wp_region_any (by kernel_rfl) ?_
        change wpAny _ _ _ _ _ _ _ (World.drew _)
        refine wpAny_take (i := 0) (v := ?v1) rfl (by kernel_rfl) (by kernel_rfl) (by kernel_rfl) (fun _ _ _ h => h) (Or.inl ⟨by rfl, ?hy1⟩) ?rest1
        case hy1 => intro w; go_simp; try with_reducible rfl
        refine wpAny_take (i := 2) (v := ?v2) rfl (by kernel_rfl) (by kernel_rfl) (by kernel_rfl) (fun _ _ _ h => h) (Or.inl ⟨by rfl, ?hy2⟩) ?rest2
        case hy2 => intro w; go_simp; try with_reducible rfl
        refine wpAny_ready (rs := [1, 3]) (by kernel_rfl) (by simp) ?_
        refine AllReady.cons rfl (fun K hK => ?_) ?_
        ·go_simp
         refine hK _ _ ?_
         clear hK K
         refine wpAny_ready (rs := [3]) (by kernel_rfl) (by simp) ?_
         refine AllReady.cons rfl (fun K hK => ?_) AllReady.nil
         go_simp
         refine (H1.out _ G2.out.rd.drew).mono ?_
         rintro e w3 ⟨⟨m, rfl⟩, r3, s3⟩
         exact ⟨rfl, by rw [HR.out]; exact ⟨⟨m, rfl⟩, r3, G2.out.step.drew.trans s3⟩⟩
        ·refine AllReady.cons rfl (fun K hK => ?_) AllReady.nil
         go_simp
         refine (H1.out _ G2.out.rd.drew).mono ?_
         rintro e w3 ⟨⟨m, rfl⟩, r3, s3⟩
         exact ⟨rfl, by rw [HR.out]; exact ⟨⟨m, rfl⟩, r3, G2.out.step.drew.trans s3⟩⟩
      | ok y j3 =>
        have HR : Hid (R = .ok (.node (11 + (c : Int)) nil_ 0 [t, y]) j3) := hm.symm
        clear hm
        go_wp2
        go_region_with (first | (go_at_call 103; refine (H1.out _ G2.out.rd.drew).mono ?_; rintro e w3 ⟨z, rfl, hz3, hsz, hnz, r3, s3⟩; obtain ⟨zk, zs, zm, za, zc, zkk⟩ := z; simp only [A.val]; have T3 := G2.out.drew.on s3 r3; obtain ⟨b0, b1, b2, b3, g0, g1, g2, g3⟩ := four_of (show w3.heap[w1.heap.size]? = some (.cells #[.int .i64 yk, .string ys, .int .i64 ym, .slice ya ykk.length yc] 26 (0, 0)) from T3.here); obtain ⟨h0, h1, h2, h3, k0, k1, k2, k3⟩ := four_of T3.res; have hp3 : w1.heap.size < w3.heap.size := T3.plt; have hq3 : w.heap.size < w3.heap.size := (by omega); have HT3 := mkHid T3; have HZ := mkHid hz3; have HSZ := mkHid hsz; have HNZ := mkHid hnz; clear T3 hz3 hsz hnz r3 s3))
        all_goals
            go_wp2
            obtain ⟨q0, q1, q2, q3⟩ := put4_cells HT3.out.res (.int .i64 (11 + (c : Int))) (.string ⟨#[]⟩) (.int .i64 0) (.slice (some ⟨w3.heap.size, 0, none⟩) 2 2) (.cells #[.int .i64 yk, .string ys, .int .i64 ym, .slice ya ykk.length yc, .int .i64 zk, .string zs, .int .i64 zm, .slice za zkk.length zc] 26)
            refine bodyPost_ret (v := (A.node (11 + (c : Int)) ⟨#[]⟩ 0 (some ⟨w3.heap.size, 0, none⟩) 2 [.node yk ys ym ya yc ykk, .node zk zs zm za zc zkk]).val) (by simp [results, Tryz.results101, go_sem, q0, q1, q2, q3, A.val]) rfl ?_
            have hlx := Sits.lt _ G2.out.sits
            have hE2 := end_list (n := w.heap.size + 1) (11 + (c : Int)) 0 ⟨#[]⟩ [.node yk ys ym ya yc ykk, .node zk zs zm za zc zkk] _ 2 HT3.out.res HT3.out.rd hrb HT3.out.step ⟨HT3.out.sits, HSZ.out, trivial⟩ (NewL.snoc (xs := [.node yk ys ym ya yc ykk]) (n1 := w2.heap.size) (NewL.one G2.out.new) (fun b hb => hlx b (by rwa [feet_one] at hb)) HNZ.out (by omega)) (by omega) (by simp [maxLen]) rfl (by decide)
            have he : erases [A.node yk ys ym ya yc ykk, .node zk zs zm za zc zkk] = [t, y] := by simp only [erases]; rw [HX.out, HZ.out]
            rw [he] at hE2
            rw [HR.out]
            exact hE2
     ·have T1 := mkHid (fun w h => has_no rb a cap ws j sz sg w h (by simpa using hw))
      have hne : textW ws j ≠ sg := fun h => hw ((isW_iff HNE.out).2 h)
      have HN2 : Hid (∀ d : Nat, d < c + 1 → textW ws j ≠ signI (11 + (d : Int))) := fun d hd => by
       rcases (by omega : d < c ∨ d = c) with q | q
       ·exact HNO.out d q
       ·subst q; rw [HSG.out]; exact hne
      clear hne hw HREL HNE HSG HNO
      go_wp2_with fail
      refine (T0.out _).mono ?_
      rintro e w9 ⟨rfl, rfl⟩
      go_wp2_with fail
      refine (T1.out _ G0.out.rd).mono ?_
      rintro e w2 ⟨rfl, r2, s2⟩
      have G2 := mkHid (G0.out.on s2 r2)
      clear r2 s2 T1 T0
      go_wp2
      go_roundw
      case rel => exact ⟨c + 1, by omega, by go_num, G2.out, HN2.out⟩
      case measure => simp [intOf]; omega
    ·have hR : R = .no j := by
       have hz0 : relI (textW ws j) = 0 := relI_none _ (fun d hd => HNO.out d (by omega))
       rw [← HR.out, if_pos hz0]
     have HR2 := mkHid hR
     have hc17 : ¬ (11 + (c : Int)) ≤ 16 := by omega
     clear hR HR HNO
     go_wp2
     exact ⟨rfl, by rw [HR2.out]; exact ⟨⟨_, rfl⟩, G0.out.rd, G0.out.step⟩⟩
end Go.Proofs.YtjmjmdmnejnlbaaGreatDoor
