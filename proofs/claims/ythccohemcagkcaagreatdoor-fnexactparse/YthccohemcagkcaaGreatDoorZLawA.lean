/-
  FnExactParse: the walk.
-/
import Derived.Test.YthccohemcagkcaaGreatDoorZSpars
import Derived.Test.YthccohemcagkcaaGreatDoorGq
namespace Go.Proofs.YthccohemcagkcaaGreatDoor
open Go.RowKit
open Pl

theorem parse_cnt (s : ByteArray) : cnt (parseI s).1 ≤ 500 := by
  unfold parseI
  split
  · simp [cnt, cnts]
  · split
    · simp [cnt, cnts]
    · split
      · rename_i h; exact h.2
      · simp [cnt, cnts]
/-- Two trees that hold the same, each in its own memory. -/
theorem eq_trees {w : World} (k : Int) (s : ByteArray) (m : Int) (a a' : Option Addr) (c c' : Nat) (kk kk' : List A) (h : Sits w (.node k s m a c kk)) (h' : Sits w (.node k s m a' c' kk')) (e : erases kk = erases kk') :
    Calls Tryz.prog 23 #[.agg #[.int .i64 k, .string s, .int .i64 m, .slice a kk.length c], .agg #[.int .i64 k, .string s, .int .i64 m, .slice a' kk'.length c']] w fun e w' => e = .returned (.bool true) ∧ Below w.heap.size w w' := by
  have h1 : Kids w 0 a (erases kk) := Sits.lies (lo := 0) _ h (fun _ _ => Nat.zero_le _)
  have h2 : Kids w 0 a' (erases kk') := Sits.lies (lo := 0) _ h' (fun _ _ => Nat.zero_le _)
  have hn : kk.length ≤ maxLen := by simp only [Sits] at h; exact h.2.1
  have := eqNode_ok (.node k s m (erases kk)) a a' c c' w (by rw [erases_len]; exact hn) h1 (by rw [e]; exact h2)
  rw [erases_len] at this
  have el : kk.length = kk'.length := by rw [← erases_len kk, e, erases_len]
  rw [← el]
  exact this
/-- What the law holds on to: the specification's tree and the program's first, in their variables, and both faults. -/
structure Keep (w : World) (p q : Nat) (x y : A) (c d : Int) (w' : World) : Prop where
  x3 : w'.heap[p]? = some (.cells x.cells.toArray 26 (0, 0))
  f4 : w'.heap[p + 1]? = some (.cells #[.int .i64 c, .int .i64 d] 31 (0, 0))
  g5 : w'.heap[q]? = some (.cells y.cells.toArray 26 (0, 0))
  f6 : w'.heap[q + 1]? = some (.cells #[.int .i64 c, .int .i64 d] 31 (0, 0))
  sx : Sits w' x
  b : Below w.heap.size w w'
theorem blk_lt {w : World} {k : Nat} {o : Obj} (h : w.heap[k]? = some o) : k < w.heap.size := (Array.getElem?_eq_some_iff.1 h).1
theorem Keep.below {w : World} {p q : Nat} {x y : A} {c d : Int} {w' w2 : World} (h : Keep w p q x y c d w') (b : Below w'.heap.size w' w2) : Keep w p q x y c d w2 :=
  ⟨(b.block _ (blk_lt h.x3)).trans h.x3, (b.block _ (blk_lt h.f4)).trans h.f4, (b.block _ (blk_lt h.g5)).trans h.g5, (b.block _ (blk_lt h.f6)).trans h.f6, Sits.stay x (fun k hk => b.block k (Sits.lt x h.sx k hk)) h.sx, h.b.trans (b.mono h.b.size)⟩
theorem Keep.out {w : World} {p q : Nat} {x y : A} {c d : Int} {w' w2 : World} {F : List Nat} (h : Keep w p q x y c d w') (o : Out F w' w2) (hF : ∀ k ∈ F, p + 1 < k ∧ k < q) (hx : ∀ k ∈ x.foot, k < p) (hw : w.heap.size ≤ p) : Keep w p q x y c d w2 := by
  refine ⟨(o.block _ (blk_lt h.x3) (fun k => ?_)).trans h.x3, (o.block _ (blk_lt h.f4) (fun k => ?_)).trans h.f4, (o.block _ (blk_lt h.g5) (fun k => ?_)).trans h.g5, (o.block _ (blk_lt h.f6) (fun k => ?_)).trans h.f6, Sits.stay x (fun k hk => o.block k (Sits.lt x h.sx k hk) (fun e => ?_)) h.sx, ⟨o.os.trans h.b.os, o.tape.trans h.b.tape, o.output.trans h.b.output, Nat.le_trans h.b.size o.size, fun k hk => (o.block k (Nat.lt_of_lt_of_le hk h.b.size) (fun e => ?_)).trans (h.b.block k hk)⟩⟩
  · have := hF _ k; omega
  · have := hF _ k; omega
  · have := hF _ k; omega
  · have := hF _ k; omega
  · have := hF _ e; have := hx _ hk; omega
  · have := hF _ e; omega
/-- Two variables more. -/
theorem two_new_blocks (w : World) (cs : Array Value) (e : TypeId) (fs : Array Value) : Below w.heap.size w ((w.alloc (.cells cs e)).alloc (.cells fs 31)) ∧ ((w.alloc (.cells cs e)).alloc (.cells fs 31)).heap[w.heap.size]? = some (.cells cs e (0, 0)) ∧ ((w.alloc (.cells cs e)).alloc (.cells fs 31)).heap[w.heap.size + 1]? = some (.cells fs 31 (0, 0)) := by
  refine ⟨((Below.refl _ _).alloc (Nat.le_refl _) _).alloc (by simp) _, (Lib.alloc_old _ _ _ (by simp)).trans (heap_alloc_new w _), ?_⟩
  have := heap_alloc_new (w.alloc (.cells cs e)) (.cells fs 31)
  simpa using this
set_option maxRecDepth 100000 in
set_option maxHeartbeats 8000000 in
theorem lawA_walk (s : ByteArray) (w : World) (hs : s.size ≤ maxLen) : Calls Tryz.prog 5 #[.string s] w fun e w' => e = .returned (.bool true) ∧ Below w.heap.size w w' := by
  by_cases hbig : decide ((1048576 : Int) < (s.size : Int)) = true
  · unfold maxLen at hs
    go_enter Tryz.func5, Tryz.ntmps5
    go_wp2
    go_ret
    exact ⟨rfl, Below.refl _ _⟩
  · simp only [Bool.not_eq_true] at hbig
    have hSP := fun w => sParse_any s w hs
    have hIP := fun w => iParse_any s w hs
    have hcn := parse_cnt s
    unfold Parsed at hSP hIP
    unfold maxLen at hs
    generalize parseI s = R at hSP hIP hcn
    obtain ⟨t, c, d⟩ := R
    obtain ⟨tk, ts, tm, tkk⟩ := t
    have HSP := mkHid hSP
    have HIP := mkHid hIP
    have HCN : Hid (1 + 3 * cnts tkk ≤ 5000) := mkHid (by simp only [cnt] at hcn; omega)
    clear hSP hIP hcn
    go_enter Tryz.func5, Tryz.ntmps5
    go_wp2_with fail
    refine (HSP.out _).mono ?_
    rintro e w1 ⟨x, rfl, hx, hsx, hnx, b1⟩
    obtain ⟨xk, xs, xm, xa, xc, xkk⟩ := x
    simp only [A.erase, T.node.injEq] at hx
    obtain ⟨e1, e2, e3, hx⟩ := hx
    subst xk
    subst xs
    subst xm
    have H_x := mkHid hx
    have HX1 := mkHid hsx
    have B1 := mkHid b1
    clear hx hsx hnx b1
    simp only [A.val]
    go_wp2_with fail
    refine (HIP.out _).mono ?_
    rintro e w2 ⟨y, rfl, hy, hsy, hny, b2⟩
    obtain ⟨yk, ys, ym, ya, yc, ykk⟩ := y
    simp only [A.erase, T.node.injEq] at hy
    obtain ⟨e1, e2, e3, hy⟩ := hy
    subst yk
    subst ys
    subst ym
    have H_y := mkHid hy
    obtain ⟨n1, n2, n3⟩ := two_new_blocks w1 #[.int .i64 tk, .string ts, .int .i64 tm, .slice xa xkk.length xc] 26 #[.int .i64 c, .int .i64 d]
    obtain ⟨m1, m2, m3⟩ := two_new_blocks w2 #[.int .i64 tk, .string ts, .int .i64 tm, .slice ya ykk.length yc] 26 #[.int .i64 c, .int .i64 d]
    have z1 : w1.heap.size + 1 < w2.heap.size := by have := b2.size; simp at this; omega
    have z0 : w1.heap.size < w2.heap.size := by omega
    have hX2 := (b2.block _ (blk_lt n2)).trans n2
    have hF2 := (b2.block _ (blk_lt n3)).trans n3
    have hS2 := Sits.stay _ (fun k hk => b2.block k (Nat.lt_of_lt_of_le (Sits.lt _ HX1.out k hk) n1.size)) (Sits.stay _ (fun k hk => n1.block k (Sits.lt _ HX1.out k hk)) HX1.out)
    have hB2 : Below w.heap.size w w2 := (B1.out.trans (n1.mono B1.out.size)).trans (b2.mono (Nat.le_trans B1.out.size n1.size))
    have K2 : Hid (Keep w w1.heap.size w2.heap.size (A.node tk ts tm xa xc xkk) (A.node tk ts tm ya yc ykk) c d _) := mkHid ⟨(m1.block _ (blk_lt hX2)).trans hX2, (m1.block _ (blk_lt hF2)).trans hF2, m2, m3, Sits.stay _ (fun k hk => m1.block k (Sits.lt _ hS2 k hk)) hS2, hB2.trans (m1.mono hB2.size)⟩
    have Y2 := mkHid (Sits.stay _ (fun k hk => m1.block k (Sits.lt _ hsy k hk)) hsy)
    have HNY := mkHid (show (A.node tk ts tm ya yc ykk).foot.Nodup ∧ ∀ k ∈ (A.node tk ts tm ya yc ykk).foot, w1.heap.size + 1 < k ∧ k < w2.heap.size from ⟨hny.1, fun k hk => ⟨by have := hny.2 k hk; simp at this; omega, Sits.lt _ hsy k hk⟩⟩)
    have HXL := mkHid (show ∀ k ∈ (A.node tk ts tm xa xc xkk).foot, k < w1.heap.size from fun k hk => Sits.lt _ HX1.out k hk)
    have HW1 := mkHid B1.out.size
    obtain ⟨x0, x1, x2, x3, _⟩ := four_of hX2
    clear n1 n2 n3 m1 m2 m3 hX2 hF2 hS2 hB2 hsy hny hy b2 HX1 B1
    simp only [A.val]
    go_wp2_with fail
    refine (eq_trees tk ts tm ya xa yc xc ykk xkk Y2.out K2.out.sx (H_y.out.trans H_x.out.symm)).mono ?_
    rintro e w3 ⟨rfl, b3⟩
    have K3 := mkHid (K2.out.below b3)
    have Y3 := mkHid (Sits.stay _ (fun k hk => b3.block k (Sits.lt _ Y2.out k hk)) Y2.out)
    clear b3 K2 Y2 x0 x1 x2 x3 z1 z0
    obtain ⟨p0, p1, _⟩ := two_of K3.out.f4
    obtain ⟨q0, q1, _⟩ := two_of K3.out.f6
    go_wp2_with fail
    refine (eqFault_same c d _).mono ?_
    rintro e w4 ⟨rfl, b4⟩
    have K4 := mkHid (K3.out.below b4)
    have Y4 := mkHid (Sits.stay _ (fun k hk => b4.block k (Sits.lt _ Y3.out k hk)) Y3.out)
    clear b4 K3 Y3 p0 p1 q0 q1
    obtain ⟨y0, y1, y2, y3, _⟩ := four_of (show w4.heap[w2.heap.size]? = some (.cells #[.int .i64 tk, .string ts, .int .i64 tm, .slice ya ykk.length yc] 26 (0, 0)) from K4.out.g5)
    have hMK := markNode_ok tk ts tm ya yc ykk w4 (by rw [H_y.out]; exact HCN.out) Y4.out HNY.out.1
    rw [H_y.out] at hMK
    have hHL := fun (W : World) (hk : Kids W 0 ya (marksT 1 tkk)) => heldNode_ok tk ts tm ya yc tkk W HCN.out (by rw [← H_y.out, erases_len]; have := Y4.out; simp only [Sits] at this; exact this.2.1) hk
    rw [show tkk.length = ykk.length by rw [← H_y.out, erases_len]] at hHL
    have hn0 : 1 + 3 * cnts tkk ≤ 5000 := HCN.out
    generalize 1 + 3 * cnts tkk = N at hMK hHL hn0
    have HHL := mkHid hHL
    have HMK := mkHid hMK
    have hneg : decide ((N : Int) < 0) = false := by simp
    clear hHL hMK
    go_wp2_with fail
    refine HMK.out.mono ?_
    rintro e w5 ⟨rfl, g1, g2, g3⟩
    have K5 := mkHid (K4.out.out g3 HNY.out.2 HXL.out HW1.out)
    have D5 : Hid (Kids w5 0 ya (marksT 1 tkk)) := by
      show Kids _ _ _ _
      have hl := Y4.out
      simp only [Sits] at hl
      have h5 : Sits w5 (.node tk ts tm ya yc (marksA 1 ykk)) := by
        simp only [Sits]
        exact ⟨hl.1, by rw [marksA_len]; exact hl.2.1, g2, g1⟩
      have := Sits.lies (lo := 0) _ h5 (fun _ _ => Nat.zero_le _)
      simp only [A.at, A.kids] at this
      rw [marksA_erase, H_y.out] at this
      exact this
    clear g1 g2 g3 K4 Y4 HMK y0 y1 y2 y3
    obtain ⟨y0, y1, y2, y3, _⟩ := four_of (show w5.heap[w2.heap.size]? = some (.cells #[.int .i64 tk, .string ts, .int .i64 tm, .slice ya ykk.length yc] 26 (0, 0)) from K5.out.g5)
    go_wp2_with fail
    refine (HHL.out _ D5.out).mono ?_
    rintro e w6 ⟨rfl, b6⟩
    have K6 := mkHid (K5.out.below b6)
    have D6 := mkHid (D5.out.below b6)
    clear b6 K5 D5 y0 y1 y2 y3
    go_wp2_with fail
    refine (HIP.out _).mono ?_
    rintro e w7 ⟨z, rfl, hz, hsz, hnz, b7⟩
    obtain ⟨zk, zs, zm, za, zc, zkk⟩ := z
    simp only [A.erase, T.node.injEq] at hz
    obtain ⟨e1, e2, e3, hz⟩ := hz
    subst zk
    subst zs
    subst zm
    have H_z := mkHid hz
    obtain ⟨m1, m2, m3⟩ := two_new_blocks w7 #[.int .i64 tk, .string ts, .int .i64 tm, .slice za zkk.length zc] 26 #[.int .i64 c, .int .i64 d]
    have K7a := K6.out.below b7
    have K7 := mkHid (K7a.below m1)
    have D7 := mkHid ((D6.out.below b7).below m1)
    have Z7 := mkHid (Sits.stay _ (fun k hk => m1.block k (Sits.lt _ hsz k hk)) hsz)
    have FZ := mkHid m3
    obtain ⟨x0, x1, x2, x3, _⟩ := four_of (show w7.heap[w1.heap.size]? = some (.cells #[.int .i64 tk, .string ts, .int .i64 tm, .slice xa xkk.length xc] 26 (0, 0)) from K7a.x3)
    have z7 := blk_lt K7a.x3
    clear m1 m2 m3 hz hsz hnz b7 K6 D6 K7a
    simp only [A.val]
    go_wp2_with fail
    refine (eq_trees tk ts tm za xa zc xc zkk xkk Z7.out K7.out.sx (H_z.out.trans H_x.out.symm)).mono ?_
    rintro e w8 ⟨rfl, b8⟩
    have K8 := mkHid (K7.out.below b8)
    have D8 := mkHid (D7.out.below b8)
    have FZ8 := (b8.block _ (blk_lt FZ.out)).trans FZ.out
    obtain ⟨p0, p1, _⟩ := two_of K8.out.f4
    obtain ⟨q0, q1, _⟩ := two_of FZ8
    clear b8 K7 D7 Z7 FZ FZ8 x0 x1 x2 x3 z7
    go_wp2_with fail
    refine (eqFault_same c d _).mono ?_
    rintro e w9 ⟨rfl, b9⟩
    have K9 := mkHid (K8.out.below b9)
    have D9 := mkHid (D8.out.below b9)
    clear b9 K8 D8 p0 p1 q0 q1
    obtain ⟨y0, y1, y2, y3, _⟩ := four_of (show w9.heap[w2.heap.size]? = some (.cells #[.int .i64 tk, .string ts, .int .i64 tm, .slice ya ykk.length yc] 26 (0, 0)) from K9.out.g5)
    go_wp2_with fail
    refine (HHL.out _ D9.out).mono ?_
    rintro e w10 ⟨rfl, b10⟩
    have B10 := mkHid (K9.out.below b10).b
    clear b10 K9 D9 y0 y1 y2 y3
    go_wp2
    go_ret
    exact ⟨rfl, B10.out⟩
end Go.Proofs.YthccohemcagkcaaGreatDoor
