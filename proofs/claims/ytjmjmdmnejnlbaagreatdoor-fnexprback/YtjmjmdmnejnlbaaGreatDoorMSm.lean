/-
  CONTRACT of DrawExprText: some tree of its own, of at most 345 nodes.
  CONTRACTS of sameNode where both hold the same trees, and of big.
-/
import Derived.Test.YtjmjmdmnejnlbaaGreatDoorMSp
import Derived.Test.YtjmjmdmnejnlbaaGreatDoorMDx
namespace Go.Proofs.YtjmjmdmnejnlbaaGreatDoor
open Go.RowKit
open Pl
structure Tx (w v : World) (cb n cap bud P Q B : Nat) (a : Option Addr) (x : A) : Prop where
 cur : Cur v cb a n cap bud
 res : v.heap[P]? = some (.cells #[.int .i64 0, .string ⟨#[]⟩, .int .i64 0, .slice none 0 0] 26 (0, 0))
 box : v.heap[Q]? = some (.cells x.cells.toArray 26 (0, 0))
 mine : x.mine v B
 ltP : P < cb
 ltc : cb < B
 ltB : B ≤ Q
 sep : ∀ q ∈ x.blocks, q ≠ Q
 bel : Below w.heap.size w v
 hP : w.heap.size = P
theorem Tx.boxlt {w v : World} {cb n cap bud P Q B : Nat} {a : Option Addr} {x : A} (h : Tx w v cb n cap bud P Q B a x) : Q < v.heap.size := (Array.getElem?_eq_some_iff.1 h.box).1
theorem Tx.next {w v v' : World} {cb n cap bud bud' P Q B : Nat} {a : Option Addr} {x : A} (h : Tx w v cb n cap bud P Q B a x) (hC : Cur v' cb a n cap bud') (hg : v.grownBy v' (some cb)) : Tx w v' cb n cap bud' P Q B a x := by
 have h1 := h.ltP
 have h2 := h.ltc
 have h3 := h.ltB
 have h4 := h.boxlt
 have h5 := h.hP
 exact ⟨hC, (hg.block P (by omega) (fun e => by cases e; omega)).trans h.res, (hg.block Q h4 (fun e => by cases e; omega)).trans h.box, h.mine.grown hg (fun p e => by cases e; exact h2), h1, h2, h3, h.sep, h.bel.grown hg h.bel.size (fun p e => by cases e; omega), h5⟩
theorem Tx.less {w v : World} {cb n cap bud bud' P Q B : Nat} {a : Option Addr} {x : A} (h : Tx w v cb n cap bud P Q B a x) (hb : bud' ≤ bud) : Tx w v cb n cap bud' P Q B a x := ⟨h.cur.less hb, h.res, h.box, h.mine, h.ltP, h.ltc, h.ltB, h.sep, h.bel, h.hP⟩
/-- Another tree, younger than all, into the box. -/
theorem Tx.over {w v v' : World} {cb n cap bud bud' P Q B : Nat} {a : Option Addr} {x : A} {zk zm : Int} {zs : ByteArray} {za : Option Addr} {zc : Nat} {zkk : List A} {v0 v1 v2 v3 : Value} (h : Tx w v cb n cap bud P Q B a x) (hC : Cur v' cb a n cap bud') (hg : v.grownBy v' (some cb)) (hz : (A.node zk zs zm za zc zkk).mine v' v.heap.size) (hQ : v'.heap[Q]? = some (.cells #[v0, v1, v2, v3] 26 (0, 0))) :
 Tx w (put4 v' Q (.int .i64 zk) (.string zs) (.int .i64 zm) (.slice za zkk.length zc)) cb n cap bud' P Q B a (.node zk zs zm za zc zkk) := by
 have h1 := h.next hC hg
 have h2 := h.ltP
 have h3 := h.ltc
 have h4 := h.ltB
 have h5 := h.boxlt
 have h6 := h.hP
 have hs : ∀ q ∈ (A.node zk zs zm za zc zkk).blocks, q ≠ Q := fun q hq e => by have := (hz.lt hq).1; omega
 exact ⟨h1.cur.put4 (by omega) _ _ _ _, (put4_other _ _ _ _ (by omega)).trans h1.res, put4_at hQ _ _ _ _, (hz.kept (put4_grown v' Q _ _ _ _) (fun hq => hs Q hq rfl)).mono (by omega), h2, h3, h4, hs, below_put4 h1.bel (by omega) _ _ _ _, h6⟩
theorem Tx.start {w v v4 : World} {cb n cap bud P : Nat} {a : Option Addr} {x : A} (hC : Cur v4 cb a n cap bud) (hg : v.grownBy v4 (some cb)) (hr : v.heap[P]? = some (.cells #[.int .i64 0, .string ⟨#[]⟩, .int .i64 0, .slice none 0 0] 26 (0, 0))) (hx : x.mine v4 v.heap.size) (h1 : P < cb) (h2 : cb < v.heap.size) (hb : Below w.heap.size w v) (hP : w.heap.size = P) :
 Tx w (v4.alloc (.cells x.cells.toArray 26)) cb n cap bud P v4.heap.size v.heap.size a x := by
 have hb2 := below_one v4 (.cells x.cells.toArray 26)
 have h4 := hg.size
 exact ⟨hC.below hb2, (Lib.alloc_old v4 _ P (by omega)).trans ((hg.block P (by omega) (fun e => by cases e; omega)).trans hr), heap_alloc_new v4 _, hx.below hb2, h1, h2, h4, fun q hq e => by have := (hx.lt hq).2; omega, (hb.grown hg hb.size (fun p e => by cases e; omega)).alloc (Nat.le_trans hb.size h4) _, hP⟩
theorem Bytes.up {w w' : World} {n : Nat} {a : Option Addr} (h : Bytes w w.heap.size a n) (hb : Below w.heap.size w w') : Bytes w' w'.heap.size a n := by
 rcases h with h | ⟨b, off, e, hlt, hc⟩
 ·exact .inl h
 ·refine .inr ⟨b, off, e, Nat.lt_of_lt_of_le hlt hb.size, fun i hi => ?_⟩
  obtain ⟨z, z0, z1, hz⟩ := hc i hi
  exact ⟨z, z0, z1, (hb.cell (p := ⟨b, off + i, none⟩) hlt).trans hz⟩
theorem FB_six : ∀ k, k ≤ 5 → FB (k + 1) ≤ 510 ∧ KB (k + 1) ≤ 319 := by
 intro k hk
 rcases (by omega : k = 0 ∨ k = 1 ∨ k = 2 ∨ k = 3 ∨ k = 4 ∨ k = 5) with rfl | rfl | rfl | rfl | rfl | rfl <;> decide
/-- What the law's drawing answers. -/
def TxPost (w : World) (e : Ending) (w' : World) : Prop := ∃ x : A, e = .returned x.val ∧ x.mine w' w.heap.size ∧ cnt x.erase ≤ 345 ∧ Below w.heap.size w w'
theorem Tx.fin {w v : World} {cb n cap bud P Q B : Nat} {a : Option Addr} {x y : A} (h : Tx w v cb n cap bud P Q B a x) (hy : y.mine v B) (hc : cnt y.erase ≤ 345) (v0 v1 v2 v3 : Value) : TxPost w (.returned y.val) (put4 v P v0 v1 v2 v3) := by
 have h2 := h.ltP
 have h3 := h.ltc
 have h6 := h.hP
 exact ⟨y, rfl, (hy.put4 (by omega) _ _ _ _).mono (by omega), hc, below_put4 h.bel (by omega) _ _ _ _⟩
set_option maxRecDepth 100000 in
set_option maxHeartbeats 8000000 in
theorem sDrawText_any (n cap : Nat) (a : Option Addr) (w : World) (hn : n ≤ 1048576) (hby : Bytes w w.heap.size a n) : Calls Tryz.prog 5 #[.slice a n cap] w (TxPost w) := by
 have hb1 := below_one w (.cells #[.int .i64 0, .string ⟨#[]⟩, .int .i64 0, .slice none 0 0] 26)
 have HO := mkHid (open_any n cap a (w.alloc (.cells #[.int .i64 0, .string ⟨#[]⟩, .int .i64 0, .slice none 0 0] 26)) hn (hby.up hb1))
 have HR := mkHid (heap_alloc_new w (.cells #[.int .i64 0, .string ⟨#[]⟩, .int .i64 0, .slice none 0 0] 26))
 have hz : (w.alloc (.cells #[.int .i64 0, .string ⟨#[]⟩, .int .i64 0, .slice none 0 0] 26)).heap.size = w.heap.size + 1 := by simp
 obtain ⟨w1, hw1⟩ : ∃ q, w.alloc (.cells #[.int .i64 0, .string ⟨#[]⟩, .int .i64 0, .slice none 0 0] 26) = q := ⟨_, rfl⟩
 obtain ⟨P, hP⟩ : ∃ q, w.heap.size = q := ⟨_, rfl⟩
 rw [hw1] at HO HR hb1 hz
 have HB1 := mkHid hb1
 rw [hP] at HR hz
 rw [hz] at HO
 clear hb1 hby hn
 go_enter Tryz.func5, Tryz.ntmps5
 go_wp2_with fail
 first | rw [hw1] | skip
 refine HO.out.mono ?_
 rintro e w2 ⟨rfl, hC2, hb2⟩
 have HR2 := mkHid ((hb2.block P (by omega)).trans HR.out)
 have HB2 := mkHid (below_step HB1.out (show Below w1.heap.size w1 w2 by rw [hz]; exact hb2))
 have HC2 := mkHid hC2
 have hw2 := hb2.size
 clear hC2 hb2 HO HR HB1
 obtain ⟨cb, hcb⟩ : ∃ q, P + 1 = q := ⟨_, rfl⟩
 rw [hcb] at HC2
 first | rw [hcb] | skip
 have hcw : cb < w2.heap.size := HC2.out.lt
 go_wp2_with fail
 first | rw [hcb] | skip
 refine (size_any 5 cb n cap 499998 a _ (by omega) (by omega) HC2.out).mono ?_
 rintro e w3 ⟨r, rfl, r0, r1, hC3, hg3⟩
 have HC3 := mkHid hC3
 have HR3 := mkHid ((hg3.block P (by omega) (fun e => by cases e; omega)).trans HR2.out)
 have HB3 := mkHid (HB2.out.grown hg3 HB2.out.size (fun p e => by cases e; omega))
 have hw3 := hg3.size
 clear hC3 hg3 HR2 HB2 HC2
 obtain ⟨k, rfl⟩ : ∃ k : Nat, r = k := ⟨r.toNat, by omega⟩
 have hw : IntKind.i64.wrap (1 + (k : Int)) = ((k + 1 : Nat) : Int) := by rw [IntWalk.i64_in _ (by omega)]; omega
 obtain ⟨F1, F2⟩ := FB_six k (by omega)
 have HE := mkHid (sDrawExpr_any (k + 1) (by omega))
 clear r0
 go_wp2_with fail
 refine (HE.out cb n cap 499000 a _ (HC3.out.less (by omega))).mono ?_
 rintro e w4 ⟨x, rfl, hx, hkx, hC4, hg4⟩
 have HS := mkHid (Tx.start (w := w) hC4 hg4 HR3.out hx (by omega) (by omega) HB3.out hP)
 have HK : Hid (cnt x.erase ≤ 319) := mkHid (Nat.le_trans hkx F2)
 clear hx hkx hC4 hg4 HR3 HB3 HC3 HE F1 F2
 obtain ⟨xk, xs, xm, xa, xc, xkk⟩ := x
 simp only [A.val]
 have HS : Hid (Tx w (w4.alloc (.cells #[.int .i64 xk, .string xs, .int .i64 xm, .slice xa xkk.length xc] 26)) cb n cap 499000 P w4.heap.size w3.heap.size a (.node xk xs xm xa xc xkk)) := HS
 go_wp2_with fail
 refine (once_any 3 cb n cap 498999 a _ (by omega) (by omega) HS.out.cur).mono ?_
 rintro e u ⟨r, rfl, hCn, hGn⟩
 have HT := mkHid (HS.out.next hCn hGn)
 clear hCn hGn HS
 obtain ⟨Q, hQ⟩ : ∃ q, w4.heap.size = q := ⟨_, rfl⟩
 obtain ⟨B, hB⟩ : ∃ q, w3.heap.size = q := ⟨_, rfl⟩
 rw [hQ, hB] at HT
 first | rw [hQ] | skip
 clear hQ hB
 have hcP : P < cb := by omega
 clear hw1 hz hP hcb hcw hw2 hw3
 cases r
 ·go_wp2_with fail
  refine (once_any 8 cb n cap 497000 a _ (by omega) (by omega) (HT.out.less (by omega)).cur).mono ?_
  rintro e u2 ⟨r, rfl, hCn, hGn⟩
  have HU := mkHid (HT.out.next hCn hGn)
  clear hCn hGn HT
  obtain ⟨c0, c1, c2, c3, f0, f1, f2, f3⟩ := four_of (v0 := .int .i64 xk) (v1 := .string xs) (v2 := .int .i64 xm) (v3 := .slice xa xkk.length xc) HU.out.box
  cases r
  ·obtain ⟨d0, d1, d2, d3, e0, e1, e2, e3⟩ := four_of HU.out.res
   go_wp2
   obtain ⟨q0, q1, q2, q3⟩ := put4_cells0 HU.out.res (.int .i64 xk) (.string xs) (.int .i64 xm) (.slice xa xkk.length xc)
   exact bodyPost_ret (v := (A.node xk xs xm xa xc xkk).val) (by simp [results, Tryz.results5, go_sem, q0, q1, q2, q3, A.val]) rfl (HU.out.fin HU.out.mine (by have := HK.out; omega) _ _ _ _)
  ·go_wp2_with fail
   refine (sSpoil_any 400 (by omega) (.node xk xs xm xa xc xkk) cb n cap 490000 a _ (by have := HK.out; omega) HU.out.mine.tree.1 (HU.out.less (by omega)).cur).mono ?_
   rintro e u3 ⟨z, rfl, hz, hkz, hCn, hGn⟩
   have HV := mkHid (HU.out.next hCn hGn)
   have HZ := mkHid (hz.mono (Nat.le_trans HU.out.ltB (Nat.le_of_lt HU.out.boxlt)))
   have HKz := mkHid hkz
   clear hCn hGn HU hz hkz c0 c1 c2 c3 f0 f1 f2 f3
   obtain ⟨zk, zs, zm, za, zc, zkk⟩ := z
   simp only [A.val]
   obtain ⟨d0, d1, d2, d3, e0, e1, e2, e3⟩ := four_of HV.out.res
   go_wp2
   obtain ⟨q0, q1, q2, q3⟩ := put4_cells0 HV.out.res (.int .i64 zk) (.string zs) (.int .i64 zm) (.slice za zkk.length zc)
   exact bodyPost_ret (v := (A.node zk zs zm za zc zkk).val) (by simp [results, Tryz.results5, go_sem, q0, q1, q2, q3, A.val]) rfl (HV.out.fin HZ.out (by have := HK.out; have := HKz.out; omega) _ _ _ _)
 ·go_wp2_with fail
  refine (sDrawCond_any cb n cap 498000 a _ (HT.out.less (by omega)).cur).mono ?_
  rintro e u1 ⟨y, rfl, hy, hky, hCn, hGn⟩
  have hbox := (hGn.block Q HT.out.boxlt (fun e => by have h1 := HT.out.ltc; have h2 := HT.out.ltB; cases e; omega)).trans HT.out.box
  have HK2 : Hid (cnt y.erase ≤ 319) := mkHid (Nat.le_trans hky (by omega))
  obtain ⟨yk, ys, ym, ya, yc, ykk⟩ := y
  simp only [A.val]
  have HT2 := mkHid (HT.out.over hCn hGn hy hbox)
  obtain ⟨c0, c1, c2, c3, f0, f1, f2, f3⟩ := four_of hbox
  clear hCn hGn HT hy hky HK hbox
  go_wp2_with fail
  refine (once_any 8 cb n cap 497000 a _ (by omega) (by omega) (HT2.out.less (by omega)).cur).mono ?_
  rintro e u2 ⟨r, rfl, hCn, hGn⟩
  have HU := mkHid (HT2.out.next hCn hGn)
  clear hCn hGn HT2 c0 c1 c2 c3 f0 f1 f2 f3
  obtain ⟨c0, c1, c2, c3, f0, f1, f2, f3⟩ := four_of (v0 := .int .i64 yk) (v1 := .string ys) (v2 := .int .i64 ym) (v3 := .slice ya ykk.length yc) HU.out.box
  cases r
  ·obtain ⟨d0, d1, d2, d3, e0, e1, e2, e3⟩ := four_of HU.out.res
   go_wp2
   obtain ⟨q0, q1, q2, q3⟩ := put4_cells0 HU.out.res (.int .i64 yk) (.string ys) (.int .i64 ym) (.slice ya ykk.length yc)
   exact bodyPost_ret (v := (A.node yk ys ym ya yc ykk).val) (by simp [results, Tryz.results5, go_sem, q0, q1, q2, q3, A.val]) rfl (HU.out.fin HU.out.mine (by have := HK2.out; omega) _ _ _ _)
  ·go_wp2_with fail
   refine (sSpoil_any 400 (by omega) (.node yk ys ym ya yc ykk) cb n cap 490000 a _ (by have := HK2.out; omega) HU.out.mine.tree.1 (HU.out.less (by omega)).cur).mono ?_
   rintro e u3 ⟨z, rfl, hz, hkz, hCn, hGn⟩
   have HV := mkHid (HU.out.next hCn hGn)
   have HZ := mkHid (hz.mono (Nat.le_trans HU.out.ltB (Nat.le_of_lt HU.out.boxlt)))
   have HKz := mkHid hkz
   clear hCn hGn HU hz hkz c0 c1 c2 c3 f0 f1 f2 f3
   obtain ⟨zk, zs, zm, za, zc, zkk⟩ := z
   simp only [A.val]
   obtain ⟨d0, d1, d2, d3, e0, e1, e2, e3⟩ := four_of HV.out.res
   go_wp2
   obtain ⟨q0, q1, q2, q3⟩ := put4_cells0 HV.out.res (.int .i64 zk) (.string zs) (.int .i64 zm) (.slice za zkk.length zc)
   exact bodyPost_ret (v := (A.node zk zs zm za zc zkk).val) (by simp [results, Tryz.results5, go_sem, q0, q1, q2, q3, A.val]) rfl (HV.out.fin HZ.out (by have := HK2.out; have := HKz.out; omega) _ _ _ _)
end Go.Proofs.YtjmjmdmnejnlbaaGreatDoor
namespace Go.Proofs.YtjmjmdmnejnlbaaGreatDoor
open Go.RowKit
open Pl
def SameOk (t : T) : Prop := match t with
 | .node k s m kk => ∀ (a a' : Option Addr) (c c' : Nat) (w : World), kk.length ≤ maxLen → Kids w 0 a kk → Kids w 0 a' kk →
   Calls Tryz.prog 12 #[.agg #[.int .i64 k, .string s, .int .i64 m, .slice a kk.length c], .agg #[.int .i64 k, .string s, .int .i64 m, .slice a' kk.length c']] w fun e w' => e = .returned (.bool true) ∧ Below w.heap.size w w'
set_option maxRecDepth 100000 in
set_option maxHeartbeats 8000000 in
theorem sameNode_ok (t : T) : SameOk t := by
 refine T.induct (P := SameOk) ?_ t
 intro k s m kk IH a a' c c' w hn hk hk'
 have hb1 : Below w.heap.size w ((w.alloc (.cells #[.int .i64 k, .string s, .int .i64 m, .slice a kk.length c] 26)).alloc (.cells #[.int .i64 k, .string s, .int .i64 m, .slice a' kk.length c'] 26)) := ((Below.refl w.heap.size w).alloc (Nat.le_refl _) _).alloc (by simp) _
 have h0 := (Lib.alloc_old (w.alloc (.cells #[.int .i64 k, .string s, .int .i64 m, .slice a kk.length c] 26)) (.cells #[.int .i64 k, .string s, .int .i64 m, .slice a' kk.length c'] 26) w.heap.size (by simp)).trans (heap_alloc_new w _)
 have h1 := heap_alloc_new (w.alloc (.cells #[.int .i64 k, .string s, .int .i64 m, .slice a kk.length c] 26)) (.cells #[.int .i64 k, .string s, .int .i64 m, .slice a' kk.length c'] 26)
 have hsz : (w.alloc (.cells #[.int .i64 k, .string s, .int .i64 m, .slice a kk.length c] 26)).heap.size = w.heap.size + 1 := by simp
 rw [hsz] at h1
 obtain ⟨w1, hw1⟩ : ∃ q, (w.alloc (.cells #[.int .i64 k, .string s, .int .i64 m, .slice a kk.length c] 26)).alloc (.cells #[.int .i64 k, .string s, .int .i64 m, .slice a' kk.length c'] 26) = q := ⟨_, rfl⟩
 obtain ⟨P, hP⟩ : ∃ q, w.heap.size = q := ⟨_, rfl⟩
 rw [hw1] at hb1 h0 h1
 rw [hP] at h0 h1
 have HB := mkHid hb1
 have H0 := mkHid h0
 have H1 := mkHid h1
 have HK := mkHid (hk.below hb1)
 have HK' := mkHid (hk'.below hb1)
 have HI := mkHid IH
 have hlt : P + 1 < w1.heap.size := (Array.getElem?_eq_some_iff.1 h1).1
 unfold maxLen at hn
 obtain ⟨c0, c1, c2, c3, f0, f1, f2, f3⟩ := four_of h0
 obtain ⟨d0, d1, d2, d3, e0, e1, e2, e3⟩ := four_of h1
 clear hb1 h0 h1 hk hk' IH
 go_enter Tryz.func12, Tryz.ntmps12
 go_wp2
 clear hw1 hP hsz c0 c1 c2 c3 f0 f1 f2 f3 d0 d1 d2 d3 e0 e1 e2 e3
 go_loopw [5] (fun i w' => ∃ (i' : Nat), i' ≤ kk.length ∧ i = .int .i64 i' ∧ Below w1.heap.size w1 w') (fun i _ => kk.length - (intOf i).toNat)
 case atStart => exact ⟨0, Nat.zero_le _, rfl, Below.refl _ _⟩
 case round =>
  obtain ⟨i, hi, rfl, hbel⟩ := hrel
  have HBW := mkHid hbel
  obtain ⟨c0, c1, c2, c3, f0, f1, f2, f3⟩ := four_of ((hbel.block P (by omega)).trans H0.out)
  obtain ⟨d0, d1, d2, d3, e0, e1, e2, e3⟩ := four_of ((hbel.block (P + 1) hlt).trans H1.out)
  have hwz := hbel.size
  by_cases hil : i < kk.length
  ·obtain ⟨x, hx⟩ : ∃ x, kk[i]? = some x := ⟨_, List.getElem?_eq_getElem hil⟩
   obtain ⟨xk, xs, xm, xkk⟩ := x
   obtain ⟨b, o, xa, xc, rfl, k0, k1, k2, k3, _, hxn, hkids⟩ := node_at HK.out hbel hx
   obtain ⟨b', o', ya, yc, rfl, l0, l1, l2, l3, _, _, hkids'⟩ := node_at HK'.out hbel hx
   have HE := mkHid (HI.out _ (List.mem_of_getElem? hx))
   have HX := mkHid hkids
   have HX' := mkHid hkids'
   have HXN := mkHid hxn
   have hlb : b < wr.heap.size := World.block_lt_of_cell? wr _ k0
   have hlb' : b' < wr.heap.size := World.block_lt_of_cell? wr _ l0
   have hp0 : P < wr.heap.size := by omega
   have hp1 : P + 1 < wr.heap.size := by omega
   have i0 : (0 : Int) ≤ (i : Int) := by omega
   have i1 : (i : Int) < (kk.length : Int) := by omega
   have w3 : IntKind.i64.wrap ((i : Int) + 1) = (i : Int) + 1 := IntWalk.i64_in _ (by omega)
   clear hx hbel hkids hkids' hxn
   go_wp2
   go_region_held3 (fun w' => w'.cell? ⟨P, 3, none⟩ = some (.slice (some ⟨b, o, none⟩) kk.length c) ∧ w'.cell? ⟨P + 1, 3, none⟩ = some (.slice (some ⟨b', o', none⟩) kk.length c') ∧ w'.cell? ⟨b, o + i * 4, none⟩ = some (.int .i64 xk) ∧ w'.cell? ⟨b, o + i * 4 + 1, none⟩ = some (.string xs) ∧ w'.cell? ⟨b, o + i * 4 + 2, none⟩ = some (.int .i64 xm) ∧ w'.cell? ⟨b, o + i * 4 + 3, none⟩ = some (.slice xa xkk.length xc) ∧ w'.cell? ⟨b', o' + i * 4, none⟩ = some (.int .i64 xk) ∧ w'.cell? ⟨b', o' + i * 4 + 1, none⟩ = some (.string xs) ∧ w'.cell? ⟨b', o' + i * 4 + 2, none⟩ = some (.int .i64 xm) ∧ w'.cell? ⟨b', o' + i * 4 + 3, none⟩ = some (.slice ya xkk.length yc)) (first | exact ⟨c3, d3, k0, k1, k2, k3, l0, l1, l2, l3⟩ | exact ⟨(hc _ _ hp0).trans c3, (hc _ _ hp1).trans d3, (hc _ _ hlb).trans k0, (hc _ _ hlb).trans k1, (hc _ _ hlb).trans k2, (hc _ _ hlb).trans k3, (hc _ _ hlb').trans l0, (hc _ _ hlb').trans l1, (hc _ _ hlb').trans l2, (hc _ _ hlb').trans l3⟩)
    (first | (go_at_call 12; refine (HE.out xa ya xc yc _ HXN.out (HX.out.below (Below.refl _ _).drew) (HX'.out.below (Below.refl _ _).drew)).mono ?_; rintro e w2 ⟨rfl, hb2⟩; obtain ⟨hc, hf⟩ := bcell hb2))
   have HB2 : Hid (Below w1.heap.size w1 w2) := mkHid (HBW.out.drew.trans (hb2.mono HBW.out.drew.size))
   clear hb2 hc hf
   go_wp2
   go_roundw
   case rel => exact ⟨i + 1, by omega, by go_num, HB2.out⟩
   case measure => simp [intOf]; omega
  ·have i1 : ¬ (i : Int) < (kk.length : Int) := by omega
   clear hbel
   go_wp2
   go_ret
   exact ⟨rfl, below_step HB.out HBW.out⟩
theorem same_A (x y : A) (w : World) (hx : Sits w x) (hy : Sits w y) (he : x.erase = y.erase) : Calls Tryz.prog 12 #[x.val, y.val] w fun e w' => e = .returned (.bool true) ∧ Below w.heap.size w w' := by
 have hk := Sits.lies (lo := 0) x hx (fun _ _ => Nat.zero_le _)
 have hk' := Sits.lies (lo := 0) y hy (fun _ _ => Nat.zero_le _)
 obtain ⟨k, s, m, a, c, kk⟩ := x
 obtain ⟨k', s', m', a', c', kk'⟩ := y
 simp only [A.erase, T.node.injEq] at he
 obtain ⟨rfl, rfl, rfl, he⟩ := he
 simp only [Sits] at hx
 have h := sameNode_ok (.node k s m (erases kk)) a a' c c' w (by rw [erases_len]; exact hx.2.1) hk (by rw [he]; exact hk')
 have hl : kk'.length = kk.length := by rw [← erases_len kk', ← he, erases_len]
 rw [erases_len] at h
 simp only [A.val]
 rw [hl]
 exact h
set_option maxHeartbeats 800000 in
theorem big_any (n c : Nat) (a : Option Addr) (w : World) : Calls Tryz.prog 4 #[.slice a n c] w fun e w' => e = .returned (.bool (decide (1048576 < n))) ∧ w = w' := by
 by_cases h : 1048576 < n
 ·have h1 : (1048576 : Int) < (n : Int) := by omega
  rw [decide_eq_true h]
  go_enter Tryz.func4, Tryz.ntmps4
  go_wp2
  go_ret
  exact ⟨rfl, rfl⟩
 ·have h1 : ¬ (1048576 : Int) < (n : Int) := by omega
  rw [decide_eq_false h]
  go_enter Tryz.func4, Tryz.ntmps4
  go_wp2
  go_ret
  exact ⟨rfl, rfl⟩
end Go.Proofs.YtjmjmdmnejnlbaaGreatDoor
