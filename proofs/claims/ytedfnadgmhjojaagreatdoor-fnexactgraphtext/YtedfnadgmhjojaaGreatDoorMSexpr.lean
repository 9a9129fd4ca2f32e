/-
  CONTRACT of the specification's reader's term.
  CONTRACT of the specification's reader's one: numbers.
  CONTRACT of the specification's reader's one: cells.
  CONTRACT of the specification's reader's expr.
-/
import Derived.Test.YtedfnadgmhjojaaGreatDoorMSRt
import Derived.Test.YtedfnadgmhjojaaGreatDoorMRpars
import Derived.Deep.RegionHeld3
namespace Go.Proofs.YtedfnadgmhjojaaGreatDoor
open Go.RowKit
open Pl

theorem Sd.pos {w : World} {rb : Nat} {a : Option Addr} {cap : Nat} {ws : List W3} {st : St2} (h : Sd w rb a cap ws st) : posOf rb w = st.1 := by
 unfold posOf
 rw [h.cells.2.1]
 simp
/-- What a loop of the specification's reader holds on to. -/
structure SGrown (rb : Nat) (a : Option Addr) (cap : Nat) (ws : List W3) (w : World) (p1 : Nat) (w' : World) (x : A) (st : St2) : Prop where
 here : w'.heap[p1]? = some (.cells x.cells.toArray 38 (0, 0))
 res : w'.heap[w.heap.size]? = some (.cells #[.int .i64 0, .string ⟨#[]⟩, .int .i64 0, .slice none 0 0] 38 (0, 0))
 sits : Sits w' x
 new : New (w.heap.size + 1) x
 off : p1 ∉ x.foot
 sd : Sd w' rb a cap ws st
 step : Step rb w w'
 lt : w.heap.size < p1
 rlt : rb < w.heap.size
section
variable {rb : Nat} {a : Option Addr} {cap : Nat} {ws : List W3} {w : World} {p1 : Nat} {w' : World} {x : A} {st : St2}
theorem SGrown.plt (h : SGrown rb a cap ws w p1 w' x st) : p1 < w'.heap.size := (Array.getElem?_eq_some_iff.1 h.here).1
theorem SGrown.on {w2 : World} {st2 : St2} (h : SGrown rb a cap ws w p1 w' x st) (s : Step rb w' w2) (r : Sd w2 rb a cap ws st2) : SGrown rb a cap ws w p1 w2 x st2 := by
 have hr := h.rlt
 have hl := h.lt
 exact ⟨s.at h.here (by omega), s.at h.res (by omega), s.sits h.sits (fun q hq => by have := h.new.2 q hq; omega), h.new, h.off, r, h.step.trans s, hl, hr⟩
theorem SGrown.below {w2 : World} (h : SGrown rb a cap ws w p1 w' x st) (b : Below w'.heap.size w' w2) : SGrown rb a cap ws w p1 w2 x st := h.on (Step.of_below b) (h.sd.keep (b.mono h.sd.lt))
/-- Another tree is laid where the first lay. -/
theorem SGrown.set {y : A} (h : SGrown rb a cap ws w p1 w' x st) (hy : Sits w' y) (hn : New (w.heap.size + 1) y) (ho : p1 ∉ y.foot) (v0 v1 v2 v3 : Value) (hv : y.cells = [v0, v1, v2, v3]) : SGrown rb a cap ws w p1 (put4 w' p1 v0 v1 v2 v3) y st := by
 have hl := h.lt
 have hr := h.rlt
 obtain ⟨u0, u1, u2, u3, hu⟩ : ∃ u0 u1 u2 u3, x.cells.toArray = #[u0, u1, u2, u3] := by cases x; exact ⟨_, _, _, _, rfl⟩
 have hh := h.here
 rw [hu] at hh
 refine ⟨by rw [hv]; exact put4_at hh _ _ _ _, (put4_other _ _ _ _ (by omega)).trans h.res, Sits.stay y (fun q hq => put4_other _ _ _ _ (fun e => ho (e ▸ hq))) hy, hn, ho, put4_sd h.sd (by omega) _ _ _ _, put4_step h.step (by omega) _ _ _ _, hl, hr⟩
theorem SGrown.first {w1 : World} {n : Nat} (hP : w1.heap[w.heap.size]? = some (.cells #[.int .i64 0, .string ⟨#[]⟩, .int .i64 0, .slice none 0 0] 38 (0, 0)))
    (hx : Sits w1 x) (hn : New n x) (hlt : w.heap.size < n) (r : Sd w1 rb a cap ws st) (s : Step rb w w1) (hr : rb < w.heap.size) (cs : Array Value) (hcs : x.cells.toArray = cs) : SGrown rb a cap ws w w1.heap.size (w1.alloc (.cells cs 38)) x st := by
 have z1 : w.heap.size < w1.heap.size := (Array.getElem?_eq_some_iff.1 hP).1
 have lx := Sits.lt x hx
 refine ⟨by rw [hcs]; exact heap_alloc_new w1 _, (Lib.alloc_old _ _ _ z1).trans hP, Sits.stay x (fun q hq => Lib.alloc_old _ _ _ (lx q hq)) hx, hn.mono (by omega), fun q => by have := lx _ q; omega, r.alloc _, s.alloc _, z1, hr⟩
end

set_option maxRecDepth 100000 in
set_option maxHeartbeats 4000000 in
theorem sterm_step {rb : Nat} {a : Option Addr} {cap : Nat} {ws : List W3} {f : Nat} (hO : ∀ g, g ≤ f → SOne rb a cap ws g) : STerm rb a cap ws (f + 1) := by
 intro st w hf h
 obtain ⟨i, b⟩ := st
 simp only at hf
 generalize hR : mTerm ws (f + 1) i = R
 have hR' : R = (mOne ws f i).then_ fun x j => mTermL ws f x j := by rw [← hR]; simp only [mTerm]
 have H1 := mkHid (fun w h => hO f (Nat.le_refl _) (i, b) w (by simp only; omega) h)
 have HT := mkHid (fun (x : T) (st' : St2) (h : SR (mOne ws f i) (i, b) x st') => tinv_first (ws := ws) (f := f) (m := mTermL ws) (x := x) (st' := st') hR' h (fun t j e => (adv ws f).1 i t j e) (by omega))
 have HO := mkHid hO
 have HA := mkHid h
 have hrb := h.lt
 clear hO h hR hR'
 show Calls _ _ _ _ (SPost rb a cap ws w R (i, b))
 go_enter Tryz.func134, Tryz.ntmps134
 go_wp2_with fail
 refine (H1.out _ (HA.out.alloc _)).mono ?_
 rintro e w1 ⟨x, st', rfl, hsx, hnx, r1, s1, hr⟩
 have hG := SGrown.first (s1.at (heap_alloc_new w _) (by omega)) hsx hnx (by simp) r1 (((Step.refl rb w).alloc _).trans s1) hrb _ rfl
 have HI := mkHid (HT.out x.erase st' hr)
 have hz : w.heap.size < w1.heap.size := (Array.getElem?_eq_some_iff.1 (s1.at (heap_alloc_new w _) (by omega))).1
 obtain ⟨xk, xs, xm, xa, xc, xkk⟩ := x
 have HG := mkHid hG
 clear hG hsx hnx r1 s1 H1 HA hr HT
 simp only [A.val]
 go_wp2
 go_loopw [] (fun w' => ∃ (x : A) (st' : St2), SGrown rb a cap ws w w1.heap.size w' x st' ∧ TInv ws f (mTermL ws) R (i, b) x.erase st') (fun w' => ws.length - posOf rb w')
 case atStart => exact ⟨_, _, HG.out, HI.out⟩
 case round =>
  obtain ⟨x, st2, hG, hI⟩ := hrel
  obtain ⟨yk, ys, ym, ya, yc, ykk⟩ := x
  have G0 := mkHid hG
  have I0 := mkHid hI
  have hpos := hG.sd.pos
  have HPo := mkHid hpos
  clear hG hI hpos HG HI
  by_cases hw : tk ws st2 ⟨#[42]⟩ = true
  ·have T0 := mkHid (fun w h => sTake_yes rb a cap ws st2 ⟨#[42]⟩ (by decide) w h hw)
   obtain ⟨j, c⟩ := st2
   obtain ⟨hc, hw2⟩ := tk_yes hw
   simp only at hc hw2
   subst hc
   have hjl := isW_lt hw2
   obtain ⟨hb, g, hgf, hgl, hm⟩ : b = false ∧ ∃ g, g ≤ f ∧ 5 * (ws.length - j) + 1 ≤ g ∧ mTermL ws g (A.node yk ys ym ya yc ykk).erase j = R := by
    rcases I0.out with ⟨h1, h2⟩ | ⟨h1, ⟨h2, _⟩ | ⟨_, g, h3, h4, h5⟩⟩
    ·simp only at h1; subst h1; cases h2
    ·cases h2
    ·exact ⟨h1, g, h3, h4, h5⟩
   subst hb
   obtain ⟨g1, rfl⟩ : ∃ g1, g = g1 + 1 := ⟨g - 1, by omega⟩
   have hm2 : (mOne ws g1 (j + 1)).then_ (fun y k => mTermL ws g1 (.node 8 nil_ 0 [(A.node yk ys ym ya yc ykk).erase, y]) k) = R := by
    have := hm
    simp only [mTermL] at this
    rw [if_pos hw2] at this
    exact this
   have H1 := mkHid (fun w h => HO.out g1 (by omega) (j + 1, false) w (by simp only; omega) h)
   have HS := mkHid (fun (y : T) (st3 : St2) (h : SR (mOne ws g1 (j + 1)) (j + 1, false) y st3) => show TInv ws f (mTermL ws) R (i, false) (.node 8 nil_ 0 [(A.node yk ys ym ya yc ykk).erase, y]) st3 ∧ j < st3.1 from by
    have e1 := (adv ws g1).1 (j + 1)
    have e2 := (advN ws g1).1 (j + 1)
    generalize mOne ws g1 (j + 1) = r at h hm2 e1 e2
    refine ⟨.inr ⟨rfl, ?_⟩, ?_⟩
    ·cases r with
     | no p => rw [h.no]; exact .inl ⟨rfl, hm2.symm⟩
     | ok t k =>
       have := e1 t k rfl
       rw [h.ok.2, h.ok.1]
       exact .inr ⟨rfl, g1, by omega, by simp only; omega, hm2⟩
    ·cases r with
     | no p => rw [h.no]; have := e2 p rfl; simp only; omega
     | ok t k => rw [h.ok.2]; have := e1 t k rfl; simp only; omega)
   clear hm hm2 hw hw2 I0 hgl
   go_wp2_with fail
   refine (T0.out _ G0.out.sd).mono ?_
   rintro e w2 ⟨rfl, r2, s2⟩
   have G2 := mkHid (G0.out.on s2 r2)
   clear r2 s2 T0
   go_wp2_with fail
   refine (H1.out _ G2.out.sd).mono ?_
   rintro e w3 ⟨z, st3, rfl, hsz, hnz, r3, s3, hr3⟩
   have hG3 := (G2.out.on s3 r3)
   have lz := Sits.lt z hsz
   have hzw := G2.out.plt
   have hxl := Sits.lt _ G2.out.sits
   have hNN := NewL.snoc (xs := [A.node yk ys ym ya yc ykk]) (n1 := w2.heap.size) (NewL.one G2.out.new) (fun b hb => hxl b (by rwa [feet_one] at hb)) hnz (by have := G2.out.lt; omega)
   obtain ⟨zk, zs, zm, za, zc, zkk⟩ := z
   have G3 := mkHid (hG3.on ((Step.refl rb w3).alloc (.cells #[.int .i64 zk, .string zs, .int .i64 zm, .slice za zkk.length zc] 38)) (r3.alloc _))
   have HZ := mkHid (Sits.stay _ (fun q hq => Lib.alloc_old w3 (.cells #[.int .i64 zk, .string zs, .int .i64 zm, .slice za zkk.length zc] 38) q (lz q hq)) hsz)
   have HN := mkHid hNN
   have HR3 := mkHid (HS.out _ _ hr3)
   have HOZ : Hid (w1.heap.size ∉ (A.node zk zs zm za zc zkk).foot) := fun q => by have := hnz.2 _ q; omega
   have hp3 : w1.heap.size < w3.heap.size := hG3.plt
   obtain ⟨d0, d1, d2, d3, e0, e1, e2, e3⟩ := four_of (show w3.heap[w1.heap.size]? = some (.cells #[.int .i64 yk, .string ys, .int .i64 ym, .slice ya ykk.length yc] 38 (0, 0)) from hG3.here)
   clear hG3 lz hxl hNN hsz hnz r3 s3 hr3 hzw H1 HS
   simp only [A.val]
   go_wp2_with fail
   refine (two_new 8 (.node yk ys ym ya yc ykk) (.node zk zs zm za zc zkk) _).mono ?_
   rintro e w4 ⟨bb, rfl, hB, hge, hb⟩
   obtain ⟨t1, t2⟩ := made (n := w.heap.size + 1) (k := 8) (m := 0) (s := ⟨#[]⟩) (c := 2) (xs := [.node yk ys ym ya yc ykk, .node zk zs zm za zc zkk]) ⟨G3.out.sits, HZ.out, trivial⟩ hb hB hge HN.out (by have := G3.out.plt; have := G3.out.lt; omega) (by decide) (by simp [maxLen])
   have hoff : w1.heap.size ∉ (A.node 8 ⟨#[]⟩ 0 (some ⟨bb, 0, none⟩) 2 [A.node yk ys ym ya yc ykk, .node zk zs zm za zc zkk]).foot := by
    simp only [A.foot, List.length_cons, blockOf]
    intro q
    rw [List.mem_append] at q
    rcases q with q | q
    ·simp at q; have := G3.out.plt; omega
    ·have hq' : w1.heap.size ∈ (A.node yk ys ym ya yc ykk).foot ∨ w1.heap.size ∈ (A.node zk zs zm za zc zkk).foot := by simpa [feet] using q
     rcases hq' with h | h
     ·exact G3.out.off h
     ·exact HOZ.out h
   have G4 := mkHid (G3.out.below hb)
   have G5 := mkHid ((G3.out.below hb).set t1 t2 hoff (.int .i64 8) (.string ⟨#[]⟩) (.int .i64 0) (.slice (some ⟨bb, 0, none⟩) 2 2) rfl)
   obtain ⟨k0, k1, k2, k3, l0, l1, l2, l3⟩ := four_of (show w4.heap[w1.heap.size]? = some (.cells #[.int .i64 yk, .string ys, .int .i64 ym, .slice ya ykk.length yc] 38 (0, 0)) from G4.out.here)
   clear hB hge hb t1 t2 hoff d0 d1 d2 d3 e0 e1 e2 e3
   simp only [A.val]
   go_wp2
   go_roundw
   case rel => exact ⟨_, _, G5.out, by rw [erase2]; exact HR3.out.1⟩
   case measure => rw [HPo.out]; exact Nat.lt_of_le_of_lt (Nat.le_of_eq (congrArg (fun q => ws.length - q) G5.out.sd.pos)) (by have := HR3.out.2; omega)
  ·simp only [Bool.not_eq_true] at hw
   have T0 := mkHid (fun w h => sTake_no rb a cap ws st2 ⟨#[42]⟩ (by decide) w h hw)
   have HE : Hid (SR R (i, b) (A.node yk ys ym ya yc ykk).erase st2) := tinv_end I0.out (fun h0 g hg => by
    obtain ⟨g1, rfl⟩ : ∃ g1, g = g1 + 1 := ⟨g - 1, by omega⟩
    have : isW ws st2.1 ⟨#[42]⟩ = false := by simpa [tk, h0] using hw
    simp only [mTermL]
    rw [if_neg (by rw [this]; decide)])
   clear hw I0
   go_wp2_with fail
   refine (T0.out _ G0.out.sd).mono ?_
   rintro e w2 ⟨rfl, r2, s2⟩
   have G2 := mkHid (G0.out.on s2 r2)
   clear r2 s2 T0
   obtain ⟨d0, d1, d2, d3, _⟩ := four_of (show w2.heap[w1.heap.size]? = some (.cells #[.int .i64 yk, .string ys, .int .i64 ym, .slice ya ykk.length yc] 38 (0, 0)) from G2.out.here)
   obtain ⟨c0, c1, c2, c3, f0, f1, f2, f3⟩ := four_of G2.out.res
   go_wp2
   obtain ⟨q0, q1, q2, q3⟩ := put4_cells0 G2.out.res (.int .i64 yk) (.string ys) (.int .i64 ym) (.slice ya ykk.length yc)
   exact bodyPost_ret (v := (A.node yk ys ym ya yc ykk).val) (by simp [results, Tryz.results134, go_sem, q0, q1, q2, q3, A.val]) rfl (sp_tree _ _ _ _ _ G2.out.sd hrb G2.out.step G2.out.sits G2.out.new (by omega) HE.out)
end Go.Proofs.YtedfnadgmhjojaaGreatDoor
namespace Go.Proofs.YtedfnadgmhjojaaGreatDoor
open Go.RowKit
open Pl

set_option maxRecDepth 100000 in
set_option maxHeartbeats 4000000 in
theorem sone_num {rb : Nat} {a : Option Addr} {cap : Nat} {ws : List W3} {f : Nat} (he : Env ws) (i : Nat) (w : World) (h : Sd w rb a cap ws (i, false)) (n0 : isW ws i ⟨#[45]⟩ = false) (h1 : kindW ws i = 2) :
    Calls Tryz.prog 136 #[.pointer (some ⟨rb, 0, none⟩)] w (SPost rb a cap ws w (mOne ws (f + 1) i) (i, false)) := by
 obtain ⟨_, _, cb, _, _⟩ := h.cells
 simp only at cb
 have hil := kindW_lt h1 (by decide)
 have hfew := he.few
 have HSR := mkHid (sr_num (f := f) he.ok h1)
 have hns := num_short (word_num he.ok h1)
 have n2 : (kindW ws i == 2) = true := by rw [h1]; rfl
 have HNB := mkHid (word_num he.ok h1)
 obtain ⟨x, hx⟩ : ∃ x, ws[i]? = some x := ⟨_, List.getElem?_eq_getElem hil⟩
 have HX := mkHid hx
 have HTX := mkHid (show textW ws i = x.s by unfold textW; rw [hx])
 have HA := mkHid h
 have hrb := h.lt
 have C0 := mkHid (fun w h => sTake_no rb a cap ws (i, false) ⟨#[45]⟩ (by decide) w h (by rw [tk_good]; exact n0))
 have C1 := mkHid (fun w h => sKind_st rb a cap ws (i, false) w h)
 clear h h1 n0 he hx
 go_enter Tryz.func136, Tryz.ntmps136
 go_wp2_with fail
 refine (C0.out _ (HA.out.alloc _)).mono ?_
 rintro e w1 ⟨rfl, r, s⟩
 have R1 := mkHid r
 have S1 := mkHid (((Step.refl rb w).alloc _).trans s)
 have P1 := mkHid (s.at (heap_alloc_new w _) (by omega))
 clear r s
 go_wp2_with fail
 refine (C1.out _ R1.out).mono ?_
 rintro e w2 ⟨rfl, r, s⟩
 have R2 := mkHid r
 have S2 := mkHid (S1.out.trans s)
 have P2 := mkHid (s.at P1.out (by omega))
 clear r s
 obtain ⟨x0, x1, _, x3, _⟩ := R2.out.cells
 simp only at x1
 have h3 := R2.out.next (i + 1)
 have S3 := S2.out.setCell (p := ⟨rb, 1, none⟩) (.inr rfl) (.int .i64 ((i + 1 : Nat) : Int))
 have P3 : (w2.setCell ⟨rb, 1, none⟩ (.int .i64 ((i + 1 : Nat) : Int))).heap[w.heap.size]? = _ := (Below.heap_setCell w2 ⟨rb, 1, none⟩ _ _ (by show w.heap.size ≠ rb; omega)).trans P2.out
 have hcast : ((i + 1 : Nat) : Int) = (i : Int) + 1 := by omega
 rw [hcast] at h3 S3 P3
 go_wp2
 generalize w2.setCell ⟨rb, 1, none⟩ (.int .i64 ((i : Int) + 1)) = W at h3 S3 P3 ⊢
 obtain ⟨e0, e1, _, _⟩ := h3.cells
 simp only at e1
 push_cast at e1
 obtain ⟨g, hg, _, d1, _⟩ := h3.word HX.out
 subst hg
 obtain ⟨c0, c1, c2, c3, f0, f1, f2, f3⟩ := four_of P3
 have hgr : g < rb := by
  rcases h3.wds with h | ⟨g1, h1, h2, _⟩
  ·rw [h] at hil; simp at hil
  ·simp at h1; omega
 have hrW := h3.lt
 have HP3 := mkHid P3
 have R3 := mkHid h3
 have HS3 := mkHid S3
 have i0 : (0 : Int) ≤ (i : Int) := by omega
 have i1 : (i : Int) < (ws.length : Int) := by omega
 obtain ⟨z, hz⟩ : ∃ z : Int, (i : Int) + 1 = z := ⟨_, rfl⟩
 have hwr : IntKind.i64.wrap (z - 1) = (i : Int) := by rw [← hz, IntKind.wrap_i64]; omega
 rw [hz] at e1
 have HZZ := mkHid hz
 clear hz
 rw [HTX.out] at hns HNB HSR
 clear P3 h3 S3 hcast x0 x1 x3
 go_region_with (first | (go_at_call 90; refine (sNumber_any _ _ (by unfold maxLen; omega)).mono ?_; rintro e w9 ⟨rfl, rfl⟩))
 all_goals
  go_wp2
  obtain ⟨q0, q1, q2, q3⟩ := put4_cells0 (w := W) HP3.out (.int .i64 1) (.string ⟨#[]⟩) (.int .i64 (numV x.s)) (.slice none 0 0)
  exact bodyPost_ret (v := (A.node 1 ⟨#[]⟩ (numV x.s) none 0 []).val) (by simp [results, Tryz.results136, go_sem, q0, q1, q2, q3, A.val]) rfl (sp_leaf 1 (numV x.s) ⟨#[]⟩ R3.out.drew hrb HS3.out.drew (by decide) HSR.out)
end Go.Proofs.YtedfnadgmhjojaaGreatDoor
namespace Go.Proofs.YtedfnadgmhjojaaGreatDoor
open Go.RowKit
open Pl

set_option maxRecDepth 100000 in
set_option maxHeartbeats 4000000 in
theorem sone_cell {rb : Nat} {a : Option Addr} {cap : Nat} {ws : List W3} {f : Nat} (he : Env ws) (hE : SExpr rb a cap ws f) (i : Nat) (w : World) (hf : 5 * (ws.length - i) + 1 ≤ f + 1) (h : Sd w rb a cap ws (i, false)) (n0 : isW ws i ⟨#[45]⟩ = false) (n1 : isW ws i ⟨#[40]⟩ = false) (n2 : (kindW ws i == 2) = false) (n3 : isW ws i ⟨#[108, 101, 110]⟩ = false) (h1 : kindW ws i = 1) (h2 : isW ws (i + 1) ⟨#[91]⟩ = true) :
    Calls Tryz.prog 136 #[.pointer (some ⟨rb, 0, none⟩)] w (SPost rb a cap ws w (mOne ws (f + 1) i) (i, false)) := by
 obtain ⟨_, _, cb, _, _⟩ := h.cells
 simp only at cb
 have e1 : nmS ws (i, false) = (i + 1, false) := by simp [nmS, nmB, h1]
 have e2 : nmT ws (i, false) = textW ws i := by simp [nmT, nmB, h1]
 have ht := he.text i
 have hlt := isW_lt h2
 have HSR := mkHid (fun x st' h => sr_cell (f := f) (x := x) (st' := st') n0 n1 n3 (by simpa using n2) h1 h2 h)
 have HE := mkHid (fun w h => hE (i + 2, false) w (by simp only; omega) h)
 have HA := mkHid h
 have hrb := h.lt
 have C0 := mkHid (fun w h => sTake_no rb a cap ws (i, false) ⟨#[45]⟩ (by decide) w h (by rw [tk_good]; exact n0))
 have C1 := mkHid (fun w h => sKind_st rb a cap ws (i, false) w h)
 have C2 := mkHid (fun w h => sTake_no rb a cap ws (i, false) ⟨#[40]⟩ (by decide) w h (by rw [tk_good]; exact n1))
 have C3 := mkHid (fun w h => sTake_no rb a cap ws (i, false) ⟨#[108, 101, 110]⟩ (by decide) w h (by rw [tk_good]; exact n3))
 have C4 := mkHid (fun w h => sNm_any rb a cap ws (i, false) w h)
 rw [e1, e2] at C4
 have C5 := mkHid (fun w h => sTake_yes rb a cap ws (i + 1, false) ⟨#[91]⟩ (by decide) w h (by rw [tk_good]; exact h2))
 have C6 := mkHid (fun st' w h => sNeed_any rb a cap ws st' ⟨#[93]⟩ (by decide) w h)
 clear h n0 n1 n3 h1 h2 he hE e1 e2
 go_enter Tryz.func136, Tryz.ntmps136
 go_wp2_with fail
 refine (C0.out _ (HA.out.alloc _)).mono ?_
 rintro e w1 ⟨rfl, r, s⟩
 have R1 := mkHid r
 have S1 := mkHid (((Step.refl rb w).alloc _).trans s)
 have P1 := mkHid (s.at (heap_alloc_new w _) (by omega))
 clear r s
 go_wp2_with fail
 refine (C1.out _ R1.out).mono ?_
 rintro e w2 ⟨rfl, r, s⟩
 have R2 := mkHid r
 have S2 := mkHid (S1.out.trans s)
 have P2 := mkHid (s.at P1.out (by omega))
 clear r s
 go_wp2_with fail
 refine (C2.out _ R2.out).mono ?_
 rintro e w3 ⟨rfl, r, s⟩
 have R3 := mkHid r
 have S3 := mkHid (S2.out.trans s)
 have P3 := mkHid (s.at P2.out (by omega))
 clear r s
 go_wp2_with fail
 refine (C3.out _ R3.out).mono ?_
 rintro e w4 ⟨rfl, r, s⟩
 have R4 := mkHid r
 have S4 := mkHid (S3.out.trans s)
 have P4 := mkHid (s.at P3.out (by omega))
 clear r s
 go_wp2_with fail
 refine (C4.out _ R4.out).mono ?_
 rintro e w5 ⟨rfl, r, s⟩
 have R5 := mkHid r
 have S5 := mkHid (S4.out.trans s)
 have P5 := mkHid (s.at P4.out (by omega))
 clear r s
 go_wp2_with fail
 refine (C5.out _ R5.out).mono ?_
 rintro e w6 ⟨rfl, r, s⟩
 have R6 := mkHid r
 have S6 := mkHid (S5.out.trans s)
 have P6 := mkHid (s.at P5.out (by omega))
 clear r s
 have z6 : w.heap.size < w6.heap.size := (Array.getElem?_eq_some_iff.1 P6.out).1
 go_wp2_with fail
 refine (HE.out _ R6.out).mono ?_
 rintro e w7 ⟨x, st', rfl, hsx, hnx, r, s, hr⟩
 have R7 := mkHid r
 have S7 := mkHid (S6.out.trans s)
 have P7 := mkHid (s.at P6.out (by omega))
 have HS := mkHid hsx
 have HN := mkHid hnx
 have HR := mkHid hr
 have Z := mkHid s.size
 clear r s hsx hnx hr
 obtain ⟨xk, xs, xm, xa, xc, xkk⟩ := x
 simp only [A.val]
 go_wp2_with fail
 refine (one_new 3 (.node xk xs xm xa xc xkk) _).mono ?_
 rintro e w8 ⟨bb, rfl, hB, hge, hb⟩
 have P8 := mkHid ((hb.block _ (Array.getElem?_eq_some_iff.1 P7.out).1).trans P7.out)
 have R8 := mkHid (R7.out.keep (hb.mono R7.out.lt))
 have S8 := mkHid (S7.out.trans (Step.of_below hb))
 obtain ⟨t1, t2⟩ := made (k := 3) (m := 0) (s := textW ws i) (c := 1) (sitsL_one HS.out) hb hB hge (NewL.one HN.out) Z.out ht (by simp [maxLen])
 have HT1 := mkHid t1
 have HT2 := mkHid t2
 have z8 : w.heap.size < w8.heap.size := (Array.getElem?_eq_some_iff.1 P8.out).1
 have g8 : rb < w8.heap.size := R8.out.lt
 clear hB hge hb t1 t2
 simp only [A.val]
 go_wp2_with fail
 refine (C6.out st' _ (R8.out.alloc _)).mono ?_
 rintro e w9 ⟨rfl, r, s⟩
 have P9 := mkHid (s.at ((Lib.alloc_old w8 _ _ z8).trans P8.out) (by omega))
 have L9 : w9.heap[w8.heap.size]? = some (.cells #[.int .i64 3, .string (textW ws i), .int .i64 0, .slice (some ⟨bb, 0, none⟩) 1 1] 38 (0, 0)) := s.at (heap_alloc_new w8 _) (by omega)
 have HS9 := mkHid (s.sits (Sits.stay _ (fun q hq => Lib.alloc_old _ _ _ (Sits.lt _ HT1.out q hq)) HT1.out) (fun q hq => by have := HT2.out.2 q hq; have := R6.out.lt; omega))
 have S9 := mkHid ((S8.out.alloc _).trans s)
 have R9 := mkHid r
 clear r s
 obtain ⟨d0, d1, d2, d3, _⟩ := four_of L9
 obtain ⟨c0, c1, c2, c3, f0, f1, f2, f3⟩ := four_of P9.out
 clear L9
 go_wp2
 obtain ⟨q0, q1, q2, q3⟩ := put4_cells0 P9.out (.int .i64 3) (.string (textW ws i)) (.int .i64 0) (.slice (some ⟨bb, 0, none⟩) 1 1)
 exact bodyPost_ret (v := (A.node 3 (textW ws i) 0 (some ⟨bb, 0, none⟩) 1 [.node xk xs xm xa xc xkk]).val) (by simp [results, Tryz.results136, go_sem, q0, q1, q2, q3, A.val]) rfl (sp_tree _ _ _ _ _ R9.out hrb S9.out HS9.out HT2.out z6 (by rw [erase1]; exact HSR.out _ _ HR.out))
end Go.Proofs.YtedfnadgmhjojaaGreatDoor
namespace Go.Proofs.YtedfnadgmhjojaaGreatDoor
open Go.RowKit
open Pl

set_option maxRecDepth 100000 in
set_option maxHeartbeats 4000000 in
theorem sexpr_step {rb : Nat} {a : Option Addr} {cap : Nat} {ws : List W3} {f : Nat} (hO : ∀ g, g ≤ f → STerm rb a cap ws g) : SExpr rb a cap ws (f + 1) := by
 intro st w hf h
 obtain ⟨i, b⟩ := st
 simp only at hf
 generalize hR : mExpr ws (f + 1) i = R
 have hR' : R = (mTerm ws f i).then_ fun x j => mExprL ws f x j := by rw [← hR]; simp only [mExpr]
 have H1 := mkHid (fun w h => hO f (Nat.le_refl _) (i, b) w (by simp only; omega) h)
 have HT := mkHid (fun (x : T) (st' : St2) (h : SR (mTerm ws f i) (i, b) x st') => tinv_first (ws := ws) (f := f) (m := mExprL ws) (x := x) (st' := st') hR' h (fun t j e => (adv ws f).2.1 i t j e) (by omega))
 have HO := mkHid hO
 have HA := mkHid h
 have hrb := h.lt
 clear hO h hR hR'
 show Calls _ _ _ _ (SPost rb a cap ws w R (i, b))
 go_enter Tryz.func130, Tryz.ntmps130
 go_wp2_with fail
 refine (H1.out _ (HA.out.alloc _)).mono ?_
 rintro e w1 ⟨x, st', rfl, hsx, hnx, r1, s1, hr⟩
 have hG := SGrown.first (s1.at (heap_alloc_new w _) (by omega)) hsx hnx (by simp) r1 (((Step.refl rb w).alloc _).trans s1) hrb _ rfl
 have HI := mkHid (HT.out x.erase st' hr)
 have hz : w.heap.size < w1.heap.size := (Array.getElem?_eq_some_iff.1 (s1.at (heap_alloc_new w _) (by omega))).1
 obtain ⟨xk, xs, xm, xa, xc, xkk⟩ := x
 have HG := mkHid hG
 clear hG hsx hnx r1 s1 H1 HA hr HT
 simp only [A.val]
 go_wp2
 go_loopw [] (fun w' => ∃ (x : A) (st' : St2), SGrown rb a cap ws w w1.heap.size w' x st' ∧ TInv ws f (mExprL ws) R (i, b) x.erase st') (fun w' => ws.length - posOf rb w')
 case atStart => exact ⟨_, _, HG.out, HI.out⟩
 case round =>
  obtain ⟨x, st2, hG, hI⟩ := hrel
  obtain ⟨yk, ys, ym, ya, yc, ykk⟩ := x
  have G0 := mkHid hG
  have I0 := mkHid hI
  have hpos := hG.sd.pos
  have HPo := mkHid hpos
  clear hG hI hpos HG HI
  by_cases hw : tk ws st2 ⟨#[43]⟩ = true
  ·have T0 := mkHid (fun w h => sTake_yes rb a cap ws st2 ⟨#[43]⟩ (by decide) w h hw)
   obtain ⟨j, c⟩ := st2
   obtain ⟨hc, hw2⟩ := tk_yes hw
   simp only at hc hw2
   subst hc
   have hjl := isW_lt hw2
   obtain ⟨hb, g, hgf, hgl, hm⟩ : b = false ∧ ∃ g, g ≤ f ∧ 5 * (ws.length - j) + 1 ≤ g ∧ mExprL ws g (A.node yk ys ym ya yc ykk).erase j = R := by
    rcases I0.out with ⟨h1, h2⟩ | ⟨h1, ⟨h2, _⟩ | ⟨_, g, h3, h4, h5⟩⟩
    ·simp only at h1; subst h1; cases h2
    ·cases h2
    ·exact ⟨h1, g, h3, h4, h5⟩
   subst hb
   obtain ⟨g1, rfl⟩ : ∃ g1, g = g1 + 1 := ⟨g - 1, by omega⟩
   have hm2 : (mTerm ws g1 (j + 1)).then_ (fun y k => mExprL ws g1 (.node 6 nil_ 0 [(A.node yk ys ym ya yc ykk).erase, y]) k) = R := by
    have := hm
    simp only [mExprL] at this
    rw [if_pos hw2] at this
    exact this
   have H1 := mkHid (fun w h => HO.out g1 (by omega) (j + 1, false) w (by simp only; omega) h)
   have HS := mkHid (fun (y : T) (st3 : St2) (h : SR (mTerm ws g1 (j + 1)) (j + 1, false) y st3) => show TInv ws f (mExprL ws) R (i, false) (.node 6 nil_ 0 [(A.node yk ys ym ya yc ykk).erase, y]) st3 ∧ j < st3.1 from by
    have e1 := (adv ws g1).2.1 (j + 1)
    have e2 := (advN ws g1).2.1 (j + 1)
    generalize mTerm ws g1 (j + 1) = r at h hm2 e1 e2
    refine ⟨.inr ⟨rfl, ?_⟩, ?_⟩
    ·cases r with
     | no p => rw [h.no]; exact .inl ⟨rfl, hm2.symm⟩
     | ok t k =>
       have := e1 t k rfl
       rw [h.ok.2, h.ok.1]
       exact .inr ⟨rfl, g1, by omega, by simp only; omega, hm2⟩
    ·cases r with
     | no p => rw [h.no]; have := e2 p rfl; simp only; omega
     | ok t k => rw [h.ok.2]; have := e1 t k rfl; simp only; omega)
   clear hm hm2 hw hw2 I0 hgl
   go_wp2_with fail
   refine (T0.out _ G0.out.sd).mono ?_
   rintro e w2 ⟨rfl, r2, s2⟩
   have G2 := mkHid (G0.out.on s2 r2)
   clear r2 s2 T0
   go_wp2_with fail
   refine (H1.out _ G2.out.sd).mono ?_
   rintro e w3 ⟨z, st3, rfl, hsz, hnz, r3, s3, hr3⟩
   have hG3 := (G2.out.on s3 r3)
   have lz := Sits.lt z hsz
   have hzw := G2.out.plt
   have hxl := Sits.lt _ G2.out.sits
   have hNN := NewL.snoc (xs := [A.node yk ys ym ya yc ykk]) (n1 := w2.heap.size) (NewL.one G2.out.new) (fun b hb => hxl b (by rwa [feet_one] at hb)) hnz (by have := G2.out.lt; omega)
   obtain ⟨zk, zs, zm, za, zc, zkk⟩ := z
   have G3 := mkHid (hG3.on ((Step.refl rb w3).alloc (.cells #[.int .i64 zk, .string zs, .int .i64 zm, .slice za zkk.length zc] 38)) (r3.alloc _))
   have HZ := mkHid (Sits.stay _ (fun q hq => Lib.alloc_old w3 (.cells #[.int .i64 zk, .string zs, .int .i64 zm, .slice za zkk.length zc] 38) q (lz q hq)) hsz)
   have HN := mkHid hNN
   have HR3 := mkHid (HS.out _ _ hr3)
   have HOZ : Hid (w1.heap.size ∉ (A.node zk zs zm za zc zkk).foot) := fun q => by have := hnz.2 _ q; omega
   have hp3 : w1.heap.size < w3.heap.size := hG3.plt
   obtain ⟨d0, d1, d2, d3, e0, e1, e2, e3⟩ := four_of (show w3.heap[w1.heap.size]? = some (.cells #[.int .i64 yk, .string ys, .int .i64 ym, .slice ya ykk.length yc] 38 (0, 0)) from hG3.here)
   clear hG3 lz hxl hNN hsz hnz r3 s3 hr3 hzw H1 HS
   simp only [A.val]
   go_wp2_with fail
   refine (two_new 6 (.node yk ys ym ya yc ykk) (.node zk zs zm za zc zkk) _).mono ?_
   rintro e w4 ⟨bb, rfl, hB, hge, hb⟩
   obtain ⟨t1, t2⟩ := made (n := w.heap.size + 1) (k := 6) (m := 0) (s := ⟨#[]⟩) (c := 2) (xs := [.node yk ys ym ya yc ykk, .node zk zs zm za zc zkk]) ⟨G3.out.sits, HZ.out, trivial⟩ hb hB hge HN.out (by have := G3.out.plt; have := G3.out.lt; omega) (by decide) (by simp [maxLen])
   have hoff : w1.heap.size ∉ (A.node 6 ⟨#[]⟩ 0 (some ⟨bb, 0, none⟩) 2 [A.node yk ys ym ya yc ykk, .node zk zs zm za zc zkk]).foot := by
    simp only [A.foot, List.length_cons, blockOf]
    intro q
    rw [List.mem_append] at q
    rcases q with q | q
    ·simp at q; have := G3.out.plt; omega
    ·have hq' : w1.heap.size ∈ (A.node yk ys ym ya yc ykk).foot ∨ w1.heap.size ∈ (A.node zk zs zm za zc zkk).foot := by simpa [feet] using q
     rcases hq' with h | h
     ·exact G3.out.off h
     ·exact HOZ.out h
   have G4 := mkHid (G3.out.below hb)
   have G5 := mkHid ((G3.out.below hb).set t1 t2 hoff (.int .i64 6) (.string ⟨#[]⟩) (.int .i64 0) (.slice (some ⟨bb, 0, none⟩) 2 2) rfl)
   obtain ⟨k0, k1, k2, k3, l0, l1, l2, l3⟩ := four_of (show w4.heap[w1.heap.size]? = some (.cells #[.int .i64 yk, .string ys, .int .i64 ym, .slice ya ykk.length yc] 38 (0, 0)) from G4.out.here)
   clear hB hge hb t1 t2 hoff d0 d1 d2 d3 e0 e1 e2 e3
   simp only [A.val]
   go_wp2
   go_roundw
   case rel => exact ⟨_, _, G5.out, by rw [erase2]; exact HR3.out.1⟩
   case measure => rw [HPo.out]; exact Nat.lt_of_le_of_lt (Nat.le_of_eq (congrArg (fun q => ws.length - q) G5.out.sd.pos)) (by have := HR3.out.2; omega)
  ·simp only [Bool.not_eq_true] at hw
   have hp := hw
   clear hw
   by_cases hw : tk ws st2 ⟨#[45]⟩ = true
   ·have T0 := mkHid (fun w h => sTake_yes rb a cap ws st2 ⟨#[45]⟩ (by decide) w h hw)
    obtain ⟨j, c⟩ := st2
    obtain ⟨hc, hw2⟩ := tk_yes hw
    simp only at hc hw2
    subst hc
    have hno : isW ws j ⟨#[43]⟩ = false := by simpa [tk] using hp
    have T9 := mkHid (fun w h => sTake_no rb a cap ws (j, false) ⟨#[43]⟩ (by decide) w h hp)
    have hjl := isW_lt hw2
    obtain ⟨hb, g, hgf, hgl, hm⟩ : b = false ∧ ∃ g, g ≤ f ∧ 5 * (ws.length - j) + 1 ≤ g ∧ mExprL ws g (A.node yk ys ym ya yc ykk).erase j = R := by
     rcases I0.out with ⟨h1, h2⟩ | ⟨h1, ⟨h2, _⟩ | ⟨_, g, h3, h4, h5⟩⟩
     ·simp only at h1; subst h1; cases h2
     ·cases h2
     ·exact ⟨h1, g, h3, h4, h5⟩
    subst hb
    obtain ⟨g1, rfl⟩ : ∃ g1, g = g1 + 1 := ⟨g - 1, by omega⟩
    have hm2 : (mTerm ws g1 (j + 1)).then_ (fun y k => mExprL ws g1 (.node 7 nil_ 0 [(A.node yk ys ym ya yc ykk).erase, y]) k) = R := by
     have := hm
     simp only [mExprL] at this
     rw [if_neg (by rw [hno]; decide), if_pos hw2] at this
     exact this
    have H1 := mkHid (fun w h => HO.out g1 (by omega) (j + 1, false) w (by simp only; omega) h)
    have HS := mkHid (fun (y : T) (st3 : St2) (h : SR (mTerm ws g1 (j + 1)) (j + 1, false) y st3) => show TInv ws f (mExprL ws) R (i, false) (.node 7 nil_ 0 [(A.node yk ys ym ya yc ykk).erase, y]) st3 ∧ j < st3.1 from by
     have e1 := (adv ws g1).2.1 (j + 1)
     have e2 := (advN ws g1).2.1 (j + 1)
     generalize mTerm ws g1 (j + 1) = r at h hm2 e1 e2
     refine ⟨.inr ⟨rfl, ?_⟩, ?_⟩
     ·cases r with
      | no p => rw [h.no]; exact .inl ⟨rfl, hm2.symm⟩
      | ok t k =>
        have := e1 t k rfl
        rw [h.ok.2, h.ok.1]
        exact .inr ⟨rfl, g1, by omega, by simp only; omega, hm2⟩
     ·cases r with
      | no p => rw [h.no]; have := e2 p rfl; simp only; omega
      | ok t k => rw [h.ok.2]; have := e1 t k rfl; simp only; omega)
    clear hm hm2 hw hw2 I0 hgl hp hno
    go_wp2_with fail
    refine (T9.out _ G0.out.sd).mono ?_
    rintro e w9 ⟨rfl, r9, s9⟩
    have G9 := mkHid (G0.out.on s9 r9)
    clear r9 s9 T9
    go_wp2_with fail
    refine (T0.out _ G9.out.sd).mono ?_
    rintro e w2 ⟨rfl, r2, s2⟩
    have G2 := mkHid (G9.out.on s2 r2)
    clear r2 s2 T0
    go_wp2_with fail
    refine (H1.out _ G2.out.sd).mono ?_
    rintro e w3 ⟨z, st3, rfl, hsz, hnz, r3, s3, hr3⟩
    have hG3 := (G2.out.on s3 r3)
    have lz := Sits.lt z hsz
    have hzw := G2.out.plt
    have hxl := Sits.lt _ G2.out.sits
    have hNN := NewL.snoc (xs := [A.node yk ys ym ya yc ykk]) (n1 := w2.heap.size) (NewL.one G2.out.new) (fun b hb => hxl b (by rwa [feet_one] at hb)) hnz (by have := G2.out.lt; omega)
    obtain ⟨zk, zs, zm, za, zc, zkk⟩ := z
    have G3 := mkHid (hG3.on ((Step.refl rb w3).alloc (.cells #[.int .i64 zk, .string zs, .int .i64 zm, .slice za zkk.length zc] 38)) (r3.alloc _))
    have HZ := mkHid (Sits.stay _ (fun q hq => Lib.alloc_old w3 (.cells #[.int .i64 zk, .string zs, .int .i64 zm, .slice za zkk.length zc] 38) q (lz q hq)) hsz)
    have HN := mkHid hNN
    have HR3 := mkHid (HS.out _ _ hr3)
    have HOZ : Hid (w1.heap.size ∉ (A.node zk zs zm za zc zkk).foot) := fun q => by have := hnz.2 _ q; omega
    have hp3 : w1.heap.size < w3.heap.size := hG3.plt
    obtain ⟨d0, d1, d2, d3, e0, e1, e2, e3⟩ := four_of (show w3.heap[w1.heap.size]? = some (.cells #[.int .i64 yk, .string ys, .int .i64 ym, .slice ya ykk.length yc] 38 (0, 0)) from hG3.here)
    clear hG3 lz hxl hNN hsz hnz r3 s3 hr3 hzw H1 HS
    simp only [A.val]
    go_wp2_with fail
    refine (two_new 7 (.node yk ys ym ya yc ykk) (.node zk zs zm za zc zkk) _).mono ?_
    rintro e w4 ⟨bb, rfl, hB, hge, hb⟩
    obtain ⟨t1, t2⟩ := made (n := w.heap.size + 1) (k := 7) (m := 0) (s := ⟨#[]⟩) (c := 2) (xs := [.node yk ys ym ya yc ykk, .node zk zs zm za zc zkk]) ⟨G3.out.sits, HZ.out, trivial⟩ hb hB hge HN.out (by have := G3.out.plt; have := G3.out.lt; omega) (by decide) (by simp [maxLen])
    have hoff : w1.heap.size ∉ (A.node 7 ⟨#[]⟩ 0 (some ⟨bb, 0, none⟩) 2 [A.node yk ys ym ya yc ykk, .node zk zs zm za zc zkk]).foot := by
     simp only [A.foot, List.length_cons, blockOf]
     intro q
     rw [List.mem_append] at q
     rcases q with q | q
     ·simp at q; have := G3.out.plt; omega
     ·have hq' : w1.heap.size ∈ (A.node yk ys ym ya yc ykk).foot ∨ w1.heap.size ∈ (A.node zk zs zm za zc zkk).foot := by simpa [feet] using q
      rcases hq' with h | h
      ·exact G3.out.off h
      ·exact HOZ.out h
    have G4 := mkHid (G3.out.below hb)
    have G5 := mkHid ((G3.out.below hb).set t1 t2 hoff (.int .i64 7) (.string ⟨#[]⟩) (.int .i64 0) (.slice (some ⟨bb, 0, none⟩) 2 2) rfl)
    obtain ⟨k0, k1, k2, k3, l0, l1, l2, l3⟩ := four_of (show w4.heap[w1.heap.size]? = some (.cells #[.int .i64 yk, .string ys, .int .i64 ym, .slice ya ykk.length yc] 38 (0, 0)) from G4.out.here)
    clear hB hge hb t1 t2 hoff d0 d1 d2 d3 e0 e1 e2 e3
    simp only [A.val]
    go_wp2
    go_roundw
    case rel => exact ⟨_, _, G5.out, by rw [erase2]; exact HR3.out.1⟩
    case measure => rw [HPo.out]; exact Nat.lt_of_le_of_lt (Nat.le_of_eq (congrArg (fun q => ws.length - q) G5.out.sd.pos)) (by have := HR3.out.2; omega)
   ·simp only [Bool.not_eq_true] at hw
    have T0 := mkHid (fun w h => sTake_no rb a cap ws st2 ⟨#[45]⟩ (by decide) w h hw)
    have T9 := mkHid (fun w h => sTake_no rb a cap ws st2 ⟨#[43]⟩ (by decide) w h hp)
    have HE : Hid (SR R (i, b) (A.node yk ys ym ya yc ykk).erase st2) := tinv_end I0.out (fun h0 g hg => by
     obtain ⟨g1, rfl⟩ : ∃ g1, g = g1 + 1 := ⟨g - 1, by omega⟩
     have : isW ws st2.1 ⟨#[45]⟩ = false := by simpa [tk, h0] using hw
     have this2 : isW ws st2.1 ⟨#[43]⟩ = false := by simpa [tk, h0] using hp
     simp only [mExprL]
     rw [if_neg (by rw [this2]; decide), if_neg (by rw [this]; decide)])
    clear hw I0 hp
    go_wp2_with fail
    refine (T9.out _ G0.out.sd).mono ?_
    rintro e w9 ⟨rfl, r9, s9⟩
    have G9 := mkHid (G0.out.on s9 r9)
    clear r9 s9 T9
    go_wp2_with fail
    refine (T0.out _ G9.out.sd).mono ?_
    rintro e w2 ⟨rfl, r2, s2⟩
    have G2 := mkHid (G9.out.on s2 r2)
    clear r2 s2 T0
    obtain ⟨d0, d1, d2, d3, _⟩ := four_of (show w2.heap[w1.heap.size]? = some (.cells #[.int .i64 yk, .string ys, .int .i64 ym, .slice ya ykk.length yc] 38 (0, 0)) from G2.out.here)
    obtain ⟨c0, c1, c2, c3, f0, f1, f2, f3⟩ := four_of G2.out.res
    go_wp2
    obtain ⟨q0, q1, q2, q3⟩ := put4_cells0 G2.out.res (.int .i64 yk) (.string ys) (.int .i64 ym) (.slice ya ykk.length yc)
    exact bodyPost_ret (v := (A.node yk ys ym ya yc ykk).val) (by simp [results, Tryz.results130, go_sem, q0, q1, q2, q3, A.val]) rfl (sp_tree _ _ _ _ _ G2.out.sd hrb G2.out.step G2.out.sits G2.out.new (by omega) HE.out)
theorem sone_step {rb : Nat} {a : Option Addr} {cap : Nat} {ws : List W3} {f : Nat} (he : Env ws) (hO : SOne rb a cap ws f) (hE : SExpr rb a cap ws f) : SOne rb a cap ws (f + 1) := by
 rintro ⟨i, b⟩ w hf h
 simp only at hf
 cases b with
 | true => exact sone_bad i w h
 | false =>
   by_cases n0 : isW ws i ⟨#[45]⟩ = true
   ·exact sone_neg hO i w hf h n0
   ·simp only [Bool.not_eq_true] at n0
    by_cases n2 : kindW ws i = 2
    ·exact sone_num he i w h n0 n2
    ·have n2' : (kindW ws i == 2) = false := by simpa using n2
     by_cases n1 : isW ws i ⟨#[40]⟩ = true
     ·exact sone_par hE i w hf h n0 n2' n1
     ·simp only [Bool.not_eq_true] at n1
      by_cases n3 : isW ws i ⟨#[108, 101, 110]⟩ = true
      ·exact sone_len he i w h n0 n1 n2' n3
      ·simp only [Bool.not_eq_true] at n3
       by_cases hv : kindW ws i = 1 ∧ isW ws (i + 1) ⟨#[91]⟩ = true
       ·exact sone_cell he hE i w hf h n0 n1 n2' n3 hv.1 hv.2
       ·refine sone_var he i w h n0 n1 n2' n3 ?_
        by_cases q : kindW ws i = 1
        ·have e1 : nmS ws (i, false) = (i + 1, false) := by simp [nmS, nmB, q]
         rw [e1, tk_good]
         cases q2 : isW ws (i + 1) ⟨#[91]⟩ with
         | false => rfl
         | true => exact absurd ⟨q, q2⟩ hv
        ·have e1 : nmS ws (i, false) = (i, true) := by simp [nmS, nmB, q]
         rw [e1]; simp [tk]
/-- The specification's reader, at expressions. -/
theorem sexpr_all {rb : Nat} {a : Option Addr} {cap : Nat} {ws : List W3} (he : Env ws) (f : Nat) : ∀ g, g ≤ f → SOne rb a cap ws g ∧ STerm rb a cap ws g ∧ SExpr rb a cap ws g := by
 induction f with
 | zero =>
   intro g hg
   have : g = 0 := by omega
   subst this
   exact ⟨fun i w h => by omega, fun i w h => by omega, fun i w h => by omega⟩
 | succ f ih =>
   intro g hg
   by_cases q : g ≤ f
   ·exact ih g q
   ·have : g = f + 1 := by omega
    subst this
    exact ⟨sone_step he (ih f (Nat.le_refl _)).1 (ih f (Nat.le_refl _)).2.2, sterm_step fun g hg => (ih g hg).1, sexpr_step fun g hg => (ih g hg).2.1⟩
end Go.Proofs.YtedfnadgmhjojaaGreatDoor
