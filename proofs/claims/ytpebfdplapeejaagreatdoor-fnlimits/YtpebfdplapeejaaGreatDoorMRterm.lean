/-
  CONTRACT of the program's reader's one: cells; all together.
  CONTRACT of the program's reader's term.
-/
import Derived.Test.YtpebfdplapeejaaGreatDoorMRoneb
namespace Go.Proofs.YtpebfdplapeejaaGreatDoor
open Go.RowKit
open Pl

/-- A list of one tree, laid behind a store: the worlds ahead and behind. -/
theorem sits_over {rb : Nat} {w w8 : World} {p : Nat} {v : Value} {x : A} {n : Nat} (hp : p < n) (hx : Sits w x) (hn : New n x) (hr : rb < n) {o : Obj} (s : Step rb ((w.setCell ⟨p, 3, none⟩ v).alloc o) w8) : Sits w8 x := by
  have hl := Sits.lt x hx
  refine s.sits (Sits.stay x (fun q hq => ?_) hx) (fun q hq => by have := hn.2 q hq; omega)
  rw [Lib.alloc_old _ _ _ (by simp only [World.setCell, Array.size_modify]; exact hl q hq), Below.heap_setCell _ _ _ _ (by have := hn.2 q hq; show q ≠ p; omega)]
set_option maxRecDepth 100000 in
set_option maxHeartbeats 1000000 in
theorem one_cell {rb : Nat} {a : Option Addr} {cap : Nat} {ws : List W3} {sz f : Nat} (he : Env ws) (hE : IExpr rb a cap ws sz f) (i : Nat) (w : World) (hf : 5 * (ws.length - i) + 1 ≤ f + 1) (h : Rd w rb a cap ws i sz) (n0 : isW ws i ⟨#[45]⟩ = false) (n1 : isW ws i ⟨#[40]⟩ = false) (n2 : isW ws i ⟨#[108, 101, 110]⟩ = false) (n3 : kindW ws i ≠ 2) (h1 : kindW ws i = 1) (h2 : isW ws (i + 1) ⟨#[91]⟩ = true) :
    Calls Tryz.prog 75 #[.pointer (some ⟨rb, 0, none⟩)] w (Post rb a cap ws sz w (mOne ws (f + 1) i)) := by
  have hm : mOne ws (f + 1) i = (mExpr ws f (i + 2)).then_ fun x j => want ws j ⟨#[93]⟩ (.ok (.node 3 (textW ws i) 0 [x]) (j + 1)) := by
    simp only [mOne]; rw [if_neg (by rw [n0]; decide), if_neg (by rw [n1]; decide), if_neg (by rw [n2]; decide), if_neg n3, show ∀ r, wantK ws i 1 r = r from fun r => by unfold wantK; rw [if_pos h1], if_pos h2]
  rw [hm]
  clear hm
  have ht := he.text i
  have hlt := isW_lt h2
  have hE1 := fun w h => hE (i + 2) w (by omega) h
  generalize mExpr ws f (i + 2) = r at hE1 ⊢
  have HE := mkHid hE1
  have HA := mkHid h
  have hrb := h.lt
  have C0 := mkHid (fun w h => has_no rb a cap ws i sz ⟨#[45]⟩ w h n0)
  have C1 := mkHid (fun w h => has_no rb a cap ws i sz ⟨#[40]⟩ w h n1)
  have C2 := mkHid (fun w h => has_no rb a cap ws i sz ⟨#[108, 101, 110]⟩ w h n2)
  have C3 := mkHid (fun w h => seesKind_no rb a cap ws i sz 2 (by decide) w h n3)
  have C4 := mkHid (fun w h => name_yes rb a cap ws i sz w h h1)
  have C5 := mkHid (fun w h => has_yes rb a cap ws (i + 1) sz ⟨#[91]⟩ w h h2)
  clear h n0 n1 n2 n3 h1 h2 hE hE1 he
  go_enter Tryz.func75, Tryz.ntmps75
  go_wp2_with fail
  refine (C0.out _ (HA.out.alloc _)).mono ?_
  rintro e w1 ⟨rfl, r, s⟩
  have R1 := mkHid r
  have S1 := mkHid (((Step.refl rb w).alloc _).trans s)
  have P1 := mkHid (s.at (heap_alloc_new w _) (by omega))
  clear r s
  go_wp2_with fail
  refine (C1.out _ R1.out).mono ?_
  rintro e w2 ⟨rfl, r, s⟩
  have R2 := mkHid r
  have S2 := mkHid (S1.out.trans s)
  have P2 := mkHid (s.at P1.out (by omega))
  clear r s
  go_wp2_with fail
  refine (C2.out _ R2.out).mono ?_
  rintro e w3 ⟨rfl, r, s⟩
  have R3 := mkHid r
  have S3 := mkHid (S2.out.trans s)
  have P3 := mkHid (s.at P2.out (by omega))
  clear r s
  go_wp2_with fail
  refine (C3.out _ R3.out).mono ?_
  rintro e w4 ⟨rfl, r, s⟩
  have R4 := mkHid r
  have S4 := mkHid (S3.out.trans s)
  have P4 := mkHid (s.at P3.out (by omega))
  clear r s
  go_wp2_with fail
  refine (C4.out _ R4.out).mono ?_
  rintro e w5 ⟨rfl, r, s⟩
  have R5 := mkHid r
  have S5 := mkHid (S4.out.trans s)
  have P5 := mkHid (s.at P4.out (by omega))
  clear r s
  go_wp2_with fail
  refine (C5.out _ (R5.out.alloc _)).mono ?_
  rintro e w6 ⟨rfl, r, s⟩
  have R6 := mkHid r
  have S6 := mkHid ((S5.out.alloc _).trans s)
  have P6 := mkHid (s.at ((Lib.alloc_old w5 _ _ (Array.getElem?_eq_some_iff.1 P5.out).1).trans P5.out) (by omega))
  have L6 := mkHid (s.at (heap_alloc_new w5 _) (by have := R5.out.lt; omega))
  clear r s
  have z5 : w.heap.size < w5.heap.size := (Array.getElem?_eq_some_iff.1 P5.out).1
  have z6 : w5.heap.size < w6.heap.size := (Array.getElem?_eq_some_iff.1 L6.out).1
  have g5 : rb < w5.heap.size := by omega
  obtain ⟨d0, d1, d2, d3, e0, e1, e2, e3⟩ := four_of L6.out
  go_wp2_with fail
  refine (HE.out _ (R6.out.setCell (p := ⟨w5.heap.size, 0, none⟩) g5 _)).mono ?_
  intro e w7 hp
  clear d0 d1 d2 d3 e0 e1 e2 e3
  cases r with
  | no p =>
    obtain ⟨⟨m, rfl⟩, r2, s2⟩ := hp
    exact ⟨rfl, ⟨m, rfl⟩, r2, (S6.out.setCell (p := ⟨w5.heap.size, 0, none⟩) (.inl (by show w.heap.size ≤ w5.heap.size; omega)) _).trans s2⟩
  | ok t j =>
    obtain ⟨x, rfl, hx, hsx, hnx, r7, s7⟩ := hp
    have P7 := mkHid (s7.at ((Below.heap_setCell w6 ⟨w5.heap.size, 0, none⟩ _ _ (by show w.heap.size ≠ w5.heap.size; omega)).trans P6.out) (by omega))
    have L7 := mkHid (s7.at (heap_setCell_same w6 w5.heap.size 0 _ 33 (.int .i64 3) L6.out) (by omega))
    have S7 := mkHid ((S6.out.setCell (p := ⟨w5.heap.size, 0, none⟩) (.inl (by show w.heap.size ≤ w5.heap.size; omega)) (.int .i64 3)).trans s7)
    have R7 := mkHid r7
    have hn6 : New w6.heap.size x := hnx.mono (by simp [World.setCell])
    have z7 : w6.heap.size ≤ w7.heap.size := by have := s7.size; simpa [World.setCell] using this
    have HX := mkHid hx
    have HS := mkHid hsx
    have HN := mkHid hn6
    clear r7 s7 hx hsx hn6 hnx
    obtain ⟨xk, xs, xm, xa, xc, xkk⟩ := x
    simp only [A.val]
    obtain ⟨d0, d1, d2, d3, e0, e1, e2, e3⟩ := four_of (v0 := .int .i64 3) (v1 := .string (textW ws i)) (v2 := .int .i64 0) (v3 := .slice none 0 0) L7.out
    have y7 : w5.heap.size < w7.heap.size := by omega
    by_cases hw : isW ws j ⟨#[93]⟩ = true
    · have HQ := mkHid (fun w h => take_yes rb a cap ws j sz ⟨#[93]⟩ w h hw)
      have HM := mkHid (show ((Res.ok t j).then_ fun x j => want ws j ⟨#[93]⟩ (.ok (.node 3 (textW ws i) 0 [x]) (j + 1))) = .ok (.node 3 (textW ws i) 0 [t]) (j + 1) by simp only [Res.then_, want]; rw [if_pos hw])
      clear hw
      go_wp2_with fail
      refine (HQ.out _ ((R7.out.setCell (p := ⟨w5.heap.size, 3, none⟩) g5 _).alloc _)).mono ?_
      rintro e w8 ⟨rfl, r, s⟩
      have P8 := mkHid (s.at ((Lib.alloc_old _ _ _ (by simp only [World.setCell, Array.size_modify]; omega)).trans ((Below.heap_setCell w7 ⟨w5.heap.size, 3, none⟩ _ _ (by show w.heap.size ≠ w5.heap.size; omega)).trans P7.out)) (by omega))
      have L8 := s.at ((Lib.alloc_old _ _ _ (by simp only [World.setCell, Array.size_modify]; omega)).trans (heap_setCell_same w7 w5.heap.size 3 _ 33 _ L7.out)) (by omega)
      have B8 := s.at (k := w7.heap.size) (by have := heap_alloc_new (w7.setCell ⟨w5.heap.size, 3, none⟩ (.slice (some ⟨w7.heap.size, 0, none⟩) 1 1)) (.cells #[.int .i64 xk, .string xs, .int .i64 xm, .slice xa xkk.length xc] 33); simpa only [World.setCell, Array.size_modify] using this) (by omega)
      have HS8 := mkHid (sits_over (rb := rb) (n := w6.heap.size) z6 HS.out HN.out (by omega) s)
      have S8 := mkHid (((S7.out.setCell (p := ⟨w5.heap.size, 3, none⟩) (.inl (by show w.heap.size ≤ w5.heap.size; omega)) _).alloc _).trans s)
      have R8 := mkHid r
      have HB := mkHid B8
      clear r s B8 d0 d1 d2 d3 e0 e1 e2 e3
      obtain ⟨d0, d1, d2, d3, _⟩ := four_of (v0 := .int .i64 3) (v1 := .string (textW ws i)) (v2 := .int .i64 0) (v3 := .slice (some ⟨w7.heap.size, 0, none⟩) 1 1) L8
      obtain ⟨c0, c1, c2, c3, f0, f1, f2, f3⟩ := four_of P8.out
      clear L8
      go_wp2
      obtain ⟨q0, q1, q2, q3⟩ := put4_cells0 P8.out (.int .i64 3) (.string (textW ws i)) (.int .i64 0) (.slice (some ⟨w7.heap.size, 0, none⟩) 1 1)
      refine bodyPost_ret (v := (A.node 3 (textW ws i) 0 (some ⟨w7.heap.size, 0, none⟩) 1 [.node xk xs xm xa xc xkk]).val) (by simp [results, Tryz.results75, go_sem, q0, q1, q2, q3, A.val]) rfl ?_
      rw [HM.out]
      have hl := Sits.lt _ HS.out
      exact end_tree (n := w6.heap.size) _ _ _ _ _ R8.out hrb S8.out (by rw [erase1, HX.out]) (Sits.node ht (by simp [maxLen]) (sitsL_one HS8.out) HB.out (fun i v hv => by simpa [cellsL, A.cells] using hv)) (New.node (NewL.one HN.out) z7 (by rw [feet_one]; intro q; have := hl _ q; omega)) (by omega)
    · have HQ := mkHid (fun w h => take_no rb a cap ws j sz ⟨#[93]⟩ w h (by simpa using hw))
      have HM := mkHid (show ((Res.ok t j).then_ fun x j => want ws j ⟨#[93]⟩ (.ok (.node 3 (textW ws i) 0 [x]) (j + 1))) = .no j by simp only [Res.then_, want]; rw [if_neg hw])
      clear hw
      go_wp2_with fail
      refine (HQ.out _ ((R7.out.setCell (p := ⟨w5.heap.size, 3, none⟩) g5 _).alloc _)).mono ?_
      rintro e w8 ⟨⟨m, rfl⟩, r, s⟩
      exact ⟨rfl, by rw [HM.out]; exact ⟨⟨m, rfl⟩, r, ((S7.out.setCell (p := ⟨w5.heap.size, 3, none⟩) (.inl (by show w.heap.size ≤ w5.heap.size; omega)) _).alloc _).trans s⟩⟩
theorem one_step {rb : Nat} {a : Option Addr} {cap : Nat} {ws : List W3} {sz f : Nat} (he : Env ws) (hO : IOne rb a cap ws sz f) (hE : IExpr rb a cap ws sz f) : IOne rb a cap ws sz (f + 1) := by
  intro i w hf h
  by_cases n0 : isW ws i ⟨#[45]⟩ = true
  · exact one_neg hO i w hf h n0
  · simp only [Bool.not_eq_true] at n0
    by_cases n1 : isW ws i ⟨#[40]⟩ = true
    · exact one_par hE i w hf h n0 n1
    · simp only [Bool.not_eq_true] at n1
      by_cases n2 : isW ws i ⟨#[108, 101, 110]⟩ = true
      · exact one_len he i w h n0 n1 n2
      · simp only [Bool.not_eq_true] at n2
        by_cases n3 : kindW ws i = 2
        · exact one_num he i w h n0 n1 n2 n3
        · by_cases hv : kindW ws i = 1 ∧ isW ws (i + 1) ⟨#[91]⟩ = true
          · exact one_cell he hE i w hf h n0 n1 n2 n3 hv.1 hv.2
          · refine one_var he i w h n0 n1 n2 n3 (fun q => ?_)
            cases q2 : isW ws (i + 1) ⟨#[91]⟩ with
            | false => rfl
            | true => exact absurd ⟨q, q2⟩ hv
end Go.Proofs.YtpebfdplapeejaaGreatDoor
namespace Go.Proofs.YtpebfdplapeejaaGreatDoor
open Go.RowKit
open Pl

def ITerm (rb : Nat) (a : Option Addr) (cap : Nat) (ws : List W3) (sz : Nat) (f : Nat) : Prop := ∀ (i : Nat) (w : World), 5 * (ws.length - i) + 2 ≤ f → Rd w rb a cap ws i sz →
  Calls Tryz.prog 65 #[.pointer (some ⟨rb, 0, none⟩)] w (Post rb a cap ws sz w (mTerm ws f i))
theorem Rd.drew {w : World} {rb : Nat} {a : Option Addr} {cap : Nat} {ws : List W3} {i sz : Nat} (h : Rd w rb a cap ws i sz) : Rd w.drew rb a cap ws i sz := h.drewN 1
/-- Where the reader stands, read off its memory. -/
def posOf (rb : Nat) (w : World) : Nat := match w.cell? ⟨rb, 1, none⟩ with
  | some (.int _ v) => v.toNat
  | _ => 0
theorem Rd.pos {w : World} {rb : Nat} {a : Option Addr} {cap : Nat} {ws : List W3} {i sz : Nat} (h : Rd w rb a cap ws i sz) : posOf rb w = i := by
  unfold posOf
  rw [h.cells.2.1]
  simp

/-- What a loop that builds a tree from the left holds on to: the tree lies in block p1, the result's variable in block p0. -/
structure Grown (rb : Nat) (a : Option Addr) (cap : Nat) (ws : List W3) (sz : Nat) (w : World) (p1 : Nat) (w' : World) (x : A) (j : Nat) : Prop where
  here : w'.heap[p1]? = some (.cells x.cells.toArray 33 (0, 0))
  res : w'.heap[w.heap.size]? = some (.cells #[.int .i64 0, .string ⟨#[]⟩, .int .i64 0, .slice none 0 0] 33 (0, 0))
  sits : Sits w' x
  new : New (w.heap.size + 1) x
  off : p1 ∉ x.foot
  rd : Rd w' rb a cap ws j sz
  step : Step rb w w'
  lt : w.heap.size < p1
  rlt : rb < w.heap.size
theorem Grown.plt {rb : Nat} {a : Option Addr} {cap : Nat} {ws : List W3} {sz : Nat} {w : World} {p1 : Nat} {w' : World} {x : A} {j : Nat} (h : Grown rb a cap ws sz w p1 w' x j) : p1 < w'.heap.size := (Array.getElem?_eq_some_iff.1 h.here).1
/-- Behind a part that reads on. -/
theorem Grown.on {rb : Nat} {a : Option Addr} {cap : Nat} {ws : List W3} {sz : Nat} {w : World} {p1 : Nat} {w' w2 : World} {x : A} {j j2 : Nat} (h : Grown rb a cap ws sz w p1 w' x j) (s : Step rb w' w2) (r : Rd w2 rb a cap ws j2 sz) : Grown rb a cap ws sz w p1 w2 x j2 := by
  have hr := h.rlt
  have hl := h.lt
  exact ⟨s.at h.here (by omega), s.at h.res (by omega), s.sits h.sits (fun q hq => by have := h.new.2 q hq; omega), h.new, h.off, r, h.step.trans s, hl, hr⟩
theorem Grown.drew {rb : Nat} {a : Option Addr} {cap : Nat} {ws : List W3} {sz : Nat} {w : World} {p1 : Nat} {w' : World} {x : A} {j : Nat} (h : Grown rb a cap ws sz w p1 w' x j) : Grown rb a cap ws sz w p1 w'.drew x j :=
  h.on (Step.refl rb w').drew h.rd.drew
/-- Two trees are joined, the new one lies where the first lay. -/
theorem Grown.join {rb : Nat} {a : Option Addr} {cap : Nat} {ws : List W3} {sz : Nat} {w : World} {p1 : Nat} {w1 w2 : World} {x y : A} {j j2 : Nat} (h : Grown rb a cap ws sz w p1 w1 x j) (s : Step rb w1 w2) (r : Rd w2 rb a cap ws j2 sz)
    (hy : Sits w2 y) (hn : New w1.heap.size y) (k : Int) (cs : Array Value) (hcs : (cellsL [x, y]).toArray = cs) :
    Grown rb a cap ws sz w p1 ((put4 w2 p1 (.int .i64 k) (.string ⟨#[]⟩) (.int .i64 0) (.slice (some ⟨w2.heap.size, 0, none⟩) 2 2)).alloc (.cells cs 33)) (.node k ⟨#[]⟩ 0 (some ⟨w2.heap.size, 0, none⟩) 2 [x, y]) j2 := by
  have h2 := h.on s r
  have hp1 := h.plt
  have hp := h2.plt
  have hl := h.lt
  have hr := h.rlt
  have lx := Sits.lt x h2.sits
  have ly := Sits.lt y hy
  have lx1 := Sits.lt x h.sits
  have hN : NewL (w.heap.size + 1) [x, y] := NewL.snoc (xs := [x]) (n1 := w1.heap.size) (NewL.one h.new) (fun b hb => lx1 b (by rwa [feet_one] at hb)) hn (by omega)
  obtain ⟨u0, u1, u2, u3, hu⟩ : ∃ u0 u1 u2 u3, x.cells.toArray = #[u0, u1, u2, u3] := by cases x; exact ⟨_, _, _, _, rfl⟩
  have hh := h2.here
  rw [hu] at hh
  generalize hW : put4 w2 p1 (.int .i64 k) (.string ⟨#[]⟩) (.int .i64 0) (.slice (some ⟨w2.heap.size, 0, none⟩) 2 2) = W
  have hz : W.heap.size = w2.heap.size := by rw [← hW]; exact put4_size _ _ _ _ _ _
  have hno : ∀ q, q ≠ p1 → W.heap[q]? = w2.heap[q]? := fun q hq => by rw [← hW]; exact put4_other _ _ _ _ hq
  have hat := put4_at hh (.int .i64 k) (.string ⟨#[]⟩) (.int .i64 0) (.slice (some ⟨w2.heap.size, 0, none⟩) 2 2)
  rw [hW] at hat
  have hf : ∀ q, q ∈ feet [x, y] → q ∈ x.foot ∨ q ∈ y.foot := fun q hq => by simpa [feet] using hq
  refine ⟨?_, ?_, Sits.node (by decide) (by simp [maxLen]) (⟨Sits.stay x (fun q hq => ?_) h2.sits, Sits.stay y (fun q hq => ?_) hy, trivial⟩) (cs := cs) ?_ (fun i v hv => by subst hcs; simpa using hv), New.node hN (by omega) (fun q => ?_), ?_, ?_, ?_, hl, hr⟩
  · rw [Lib.alloc_old _ _ _ (by omega)]
    exact hat
  · rw [Lib.alloc_old _ _ _ (by omega), hno _ (by omega)]
    exact h2.res
  · rw [Lib.alloc_old _ _ _ (by rw [hz]; exact lx q hq), hno q (fun e => h.off (e ▸ hq))]
  · rw [Lib.alloc_old _ _ _ (by rw [hz]; exact ly q hq), hno q (by have := hn.2 q hq; omega)]
  · rw [← hz]; exact heap_alloc_new W _
  · rcases hf _ q with q | q
    · have := lx _ q; omega
    · have := ly _ q; omega
  · simp only [A.foot, List.length_cons, blockOf]
    intro q
    rw [List.mem_append] at q
    rcases q with q | q
    · simp at q; omega
    · rcases hf _ q with q | q
      · exact h.off q
      · have := hn.2 _ q; omega
  · refine Rd.alloc ?_ _
    rw [← hW]; exact put4_rd r (by omega) _ _ _ _
  · refine Step.alloc ?_ _
    rw [← hW]; exact put4_step h2.step (by omega) _ _ _ _
/-- The first tree is laid into a new block. -/
theorem Grown.first {rb : Nat} {a : Option Addr} {cap : Nat} {ws : List W3} {sz : Nat} {w w1 : World} {x : A} {j n : Nat} (hP : w1.heap[w.heap.size]? = some (.cells #[.int .i64 0, .string ⟨#[]⟩, .int .i64 0, .slice none 0 0] 33 (0, 0)))
    (hx : Sits w1 x) (hn : New n x) (hlt : w.heap.size < n) (r : Rd w1 rb a cap ws j sz) (s : Step rb w w1) (hr : rb < w.heap.size) (cs : Array Value) (hcs : x.cells.toArray = cs) : Grown rb a cap ws sz w w1.heap.size (w1.alloc (.cells cs 33)) x j := by
  have z1 : w.heap.size < w1.heap.size := (Array.getElem?_eq_some_iff.1 hP).1
  have lx := Sits.lt x hx
  refine ⟨by rw [hcs]; exact heap_alloc_new w1 _, (Lib.alloc_old _ _ _ z1).trans hP, Sits.stay x (fun q hq => Lib.alloc_old _ _ _ (lx q hq)) hx, hn.mono (by omega), fun q => by have := lx _ q; omega, r.alloc _, s.alloc _, z1, hr⟩

set_option maxRecDepth 100000 in
set_option maxHeartbeats 4000000 in
theorem term_step {rb : Nat} {a : Option Addr} {cap : Nat} {ws : List W3} {sz f : Nat} (hO : ∀ g, g ≤ f → IOne rb a cap ws sz g) : ITerm rb a cap ws sz (f + 1) := by
  intro i w hf h
  have HM := mkHid (show mTerm ws (f + 1) i = (mOne ws f i).then_ fun x j => mTermL ws f x j by simp only [mTerm])
  rw [HM.out]
  have hO1 := fun w h => hO f (Nat.le_refl _) i w (by omega) h
  have ha := (adv ws f).1 i
  generalize mOne ws f i = r at hO1 ha ⊢
  have H1 := mkHid hO1
  have HO := mkHid hO
  have HA := mkHid h
  have hrb := h.lt
  clear HM hO h hO1
  cases r with
  | no p =>
    clear ha
    go_enter Tryz.func65, Tryz.ntmps65
    go_wp2_with fail
    refine (H1.out _ (HA.out.alloc _)).mono ?_
    rintro e w1 ⟨⟨m, rfl⟩, r1, s1⟩
    exact ⟨rfl, ⟨m, rfl⟩, r1, ((Step.refl rb w).alloc _).trans s1⟩
  | ok t j =>
    obtain ⟨hij, hjl⟩ := ha t j rfl
    clear ha
    show Calls _ _ _ _ (Post rb a cap ws sz w (mTermL ws f t j))
    generalize hR : mTermL ws f t j = R
    have HR := mkHid hR
    clear hR
    go_enter Tryz.func65, Tryz.ntmps65
    go_wp2_with fail
    refine (H1.out _ (HA.out.alloc _)).mono ?_
    rintro e w1 ⟨x, rfl, hx, hsx, hnx, r1, s1⟩
    have hG := Grown.first (s1.at (heap_alloc_new w _) (by omega)) hsx hnx (by simp) r1 (((Step.refl rb w).alloc _).trans s1) hrb _ rfl
    have hz : w.heap.size < w1.heap.size := (Array.getElem?_eq_some_iff.1 (s1.at (heap_alloc_new w _) (by omega))).1
    obtain ⟨xk, xs, xm, xa, xc, xkk⟩ := x
    have HG := mkHid hG
    have HX := mkHid hx
    clear hG hx hsx hnx r1 s1 H1 HA
    simp only [A.val]
    go_wp2
    go_loopw [] (fun w' => ∃ (x : A) (j g : Nat), Grown rb a cap ws sz w w1.heap.size w' x j ∧ g ≤ f ∧ 5 * (ws.length - j) + 1 ≤ g ∧ mTermL ws g x.erase j = R) (fun w' => ws.length - posOf rb w')
    case atStart => exact ⟨_, j, f, HG.out, Nat.le_refl _, by omega, by rw [HX.out]; exact HR.out⟩
    case round =>
      obtain ⟨x, j2, g, hG, hgf, hfu, hm⟩ := hrel
      obtain ⟨yk, ys, ym, ya, yc, ykk⟩ := x
      have G0 := mkHid hG
      have M0 := mkHid hm
      have R0 := mkHid hG.rd
      have hpos := hG.rd.pos
      have HPo := mkHid hpos
      clear hG hm hpos HG HX HR
      by_cases hw : isW ws j2 ⟨#[42]⟩ = true
      · obtain ⟨g1, rfl⟩ : ∃ g1, g = g1 + 1 := ⟨g - 1, by omega⟩
        have hjl2 := isW_lt hw
        have hm : (mOne ws g1 (j2 + 1)).then_ (fun y j => mTermL ws g1 (.node 8 nil_ 0 [(A.node yk ys ym ya yc ykk).erase, y]) j) = R := by
          have := M0.out
          simp only [mTermL] at this
          rw [if_pos hw] at this
          exact this
        have hO1 := fun w h => HO.out g1 (by omega) (j2 + 1) w (by omega) h
        have ha := (adv ws g1).1 (j2 + 1)
        have HT := mkHid (fun w h => has_yes rb a cap ws j2 sz ⟨#[42]⟩ w h hw)
        generalize mOne ws g1 (j2 + 1) = r at hm hO1 ha
        have H1 := mkHid hO1
        clear hO1 M0 hw
        go_wp2_with fail
        refine (HT.out _ R0.out).mono ?_
        rintro e w2 ⟨rfl, r2, s2⟩
        have G2 := mkHid (G0.out.on s2 r2)
        clear r2 s2 HT
        cases r with
        | no p =>
          have HR : Hid (R = .no p) := hm.symm
          clear hm ha
          obtain ⟨d0, d1, d2, d3, e0, e1, e2, e3⟩ := four_of (show w2.heap[w1.heap.size]? = some (.cells #[.int .i64 yk, .string ys, .int .i64 ym, .slice ya ykk.length yc] 33 (0, 0)) from G2.out.here)
          go_wp2
          refine wp_region_any (by kernel_rfl) ?_
          change wpAny _ _ _ _ _ _ _ (World.drew _)
          refine wpAny_take (i := 1) (v := ?v1) rfl (by kernel_rfl) (by kernel_rfl) (by kernel_rfl) (fun _ _ _ h => h) (Or.inl ⟨by rfl, ?hy1⟩) ?rest1
          case hy1 => intro w; go_simp; try with_reducible rfl
          refine wpAny_ready (rs := [0, 2]) (by kernel_rfl) (by simp) ?_
          refine AllReady.cons rfl (fun K hK => ?_) ?_
          · go_simp
            refine hK _ _ ?_
            clear hK K
            refine wpAny_ready (rs := [2]) (by kernel_rfl) (by simp) ?_
            refine AllReady.cons rfl (fun K hK => ?_) AllReady.nil
            go_simp
            refine (H1.out _ G2.out.rd.drew).mono ?_
            rintro e w3 ⟨⟨m, rfl⟩, r3, s3⟩
            exact ⟨rfl, by rw [HR.out]; exact ⟨⟨m, rfl⟩, r3, G2.out.step.drew.trans s3⟩⟩
          · refine AllReady.cons rfl (fun K hK => ?_) AllReady.nil
            go_simp
            refine (H1.out _ G2.out.rd.drew).mono ?_
            rintro e w3 ⟨⟨m, rfl⟩, r3, s3⟩
            exact ⟨rfl, by rw [HR.out]; exact ⟨⟨m, rfl⟩, r3, G2.out.step.drew.trans s3⟩⟩
        | ok y j3 =>
          obtain ⟨hj3, hj3l⟩ := ha y j3 rfl
          have HR : Hid (mTermL ws g1 (.node 8 nil_ 0 [(A.node yk ys ym ya yc ykk).erase, y]) j3 = R) := hm
          clear hm ha
          obtain ⟨d0, d1, d2, d3, e0, e1, e2, e3⟩ := four_of (show w2.heap[w1.heap.size]? = some (.cells #[.int .i64 yk, .string ys, .int .i64 ym, .slice ya ykk.length yc] 33 (0, 0)) from G2.out.here)
          have hp2 := G2.out.plt
          go_wp2
          go_region_with (first | (go_at_call 75; refine (H1.out _ G2.out.rd.drew).mono ?_; rintro e w3 ⟨z, rfl, hz3, hsz, hnz, r3, s3⟩; obtain ⟨zk, zs, zm, za, zc, zkk⟩ := z; simp only [A.val]; obtain ⟨b0, b1, b2, b3, f0, f1, f2, f3⟩ := four_of (show w3.heap[w1.heap.size]? = some (.cells #[.int .i64 yk, .string ys, .int .i64 ym, .slice ya ykk.length yc] 33 (0, 0)) from (G2.out.drew.on s3 r3).here); have hp3 : w1.heap.size < w3.heap.size := (G2.out.drew.on s3 r3).plt; have G3 := mkHid (G2.out.drew.join s3 r3 hsz hnz 8 _ rfl); have HZ := mkHid hz3; clear hz3 hsz hnz r3 s3))
          all_goals
            go_wp2
            go_roundw
            case rel => exact ⟨_, j3, g1, G3.out, by omega, by omega, by rw [erase2, HZ.out]; exact HR.out⟩
            case measure => rw [HPo.out]; exact Nat.lt_of_le_of_lt (Nat.le_of_eq (congrArg (fun q => ws.length - q) G3.out.rd.pos)) (by omega)
      · have HT := mkHid (fun w h => has_no rb a cap ws j2 sz ⟨#[42]⟩ w h (by simpa using hw))
        have HR : Hid (R = .ok (A.node yk ys ym ya yc ykk).erase j2) := by
          obtain ⟨g1, rfl⟩ : ∃ g1, g = g1 + 1 := ⟨g - 1, by omega⟩
          have := M0.out
          simp only [mTermL] at this
          rw [if_neg hw] at this
          exact this.symm
        clear M0 hw
        go_wp2_with fail
        refine (HT.out _ R0.out).mono ?_
        rintro e w2 ⟨rfl, r2, s2⟩
        have G2 := mkHid (G0.out.on s2 r2)
        clear r2 s2 HT
        obtain ⟨d0, d1, d2, d3, _⟩ := four_of (show w2.heap[w1.heap.size]? = some (.cells #[.int .i64 yk, .string ys, .int .i64 ym, .slice ya ykk.length yc] 33 (0, 0)) from G2.out.here)
        obtain ⟨c0, c1, c2, c3, f0, f1, f2, f3⟩ := four_of G2.out.res
        go_wp2
        obtain ⟨q0, q1, q2, q3⟩ := put4_cells0 G2.out.res (.int .i64 yk) (.string ys) (.int .i64 ym) (.slice ya ykk.length yc)
        exact bodyPost_ret (v := (A.node yk ys ym ya yc ykk).val) (by simp [results, Tryz.results65, go_sem, q0, q1, q2, q3, A.val]) rfl (by rw [HR.out]; exact end_tree _ _ _ _ _ G2.out.rd hrb G2.out.step rfl G2.out.sits G2.out.new (by omega))
end Go.Proofs.YtpebfdplapeejaaGreatDoor
