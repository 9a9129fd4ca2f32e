/-
  CONTRACT of the program's plainLoop.
-/
import Derived.Test.YtpebfdplapeejaaGreatDoorMCe
namespace Go.Proofs.YtpebfdplapeejaaGreatDoor
open Go.RowKit
open Pl

theorem OwnA.mono {w : World} {B B' : Nat} {v : Value} {els : List A} (h : OwnA w B v els) (hB : B' ≤ B) : OwnA w B' v els := by
 obtain ⟨⟨h1, h2⟩, h3, h4, h5⟩ := h
 refine ⟨⟨h1, ?_⟩, h3, h4.mono hB, h5⟩
 rcases h2 with h2 | ⟨g, cap, cur, e, hb, r⟩
 ·exact .inl h2
 ·exact .inr ⟨g, cap, cur, e, Nat.le_trans hB hb, r⟩
/-- Trees more that share nothing with the row. -/
theorem OwnA.push' {w3 w4 : World} {B g c2 j : Nat} {sa : Option Addr} {sc : Nat} {els xs : List A} {cs : Array Value} (h3 : OwnA w3 B (.slice sa els.length sc) els) (hx : SitsL w3 xs) (hn : NewL B xs) (hd : ∀ q ∈ feet xs, q ∉ feet els ∧ (Value.slice sa els.length sc).ownBlock ≠ some q)
  (hown : w4.ownsRow B 33 4 (.slice (some ⟨g, 0, none⟩) (els.length + j) c2) (els.length + j) (cellsL els ++ cellsL xs)) (hgrow : (w3.alloc (.cells cs 33)).grownBy w4 (Value.slice sa els.length sc).ownBlock)
  (hat : (Value.slice sa els.length sc).ownBlock = some g ∨ g = w3.heap.size + 1) (hj : xs.length = j) :
  OwnA w4 B (.slice (some ⟨g, 0, none⟩) (els ++ xs).length c2) (els ++ xs) := by
 have lx := SitsL.lt hx
 have le := SitsL.lt h3.sits
 have hlen : (els ++ xs).length = els.length + j := by simp [hj]
 have keep : ∀ q, q < w3.heap.size → (∀ g', (Value.slice sa els.length sc).ownBlock = some g' → q ≠ g') → w4.heap[q]? = w3.heap[q]? := fun q hq hne => by
  rw [hgrow.block q (by simp; omega) (fun e => hne q e.symm rfl), Lib.alloc_old _ _ _ hq]
 refine ⟨?_, ?_, ?_, ?_⟩
 ·rw [hlen, cellsL_append]
  exact hown
 ·refine sitsL_append (h3.sits.stay fun q hq => ?_) (hx.stay fun q hq => ?_)
  ·rw [keep q (le q hq) (fun g' e => fun e2 => h3.apart g' e (e2 ▸ hq))]
  ·rw [keep q (lx q hq) (fun g' e => fun e2 => (hd q hq).2 (e2 ▸ e))]
 ·unfold NewL
  rw [feet_append]
  refine ⟨List.nodup_append.2 ⟨h3.new.1, hn.1, fun p hp q hq e => (hd q hq).1 (e ▸ hp)⟩, fun b hb => ?_⟩
  rcases List.mem_append.1 hb with hb | hb
  ·exact h3.new.2 b hb
  ·exact hn.2 b hb
 ·intro g' e hq
  simp [Value.ownBlock] at e
  subst e
  rw [feet_append, List.mem_append] at hq
  rcases hat with hat | hat
  ·rcases hq with hq | hq
   ·exact h3.apart g hat hq
   ·exact (hd g hq).2 hat
  ·rcases hq with hq | hq
   ·have := le g hq; omega
   ·have := lx g hq; omega
def numA : A := .node 1 ⟨#[]⟩ 1 none 0 []
/-- A list of leaves, and a node over it in a block. -/
theorem next_made (w2 : World) (s : ByteArray) (hs : s.size ≤ maxLen) {v3 : World} (hv : (w2.alloc (.cells (cellsL [varA s, numA]).toArray 33)).alloc (.cells #[.int .i64 6, .string ⟨#[]⟩, .int .i64 0, .slice (some ⟨w2.heap.size, 0, none⟩) 2 2] 33) = v3) :
  (A.node 6 ⟨#[]⟩ 0 (some ⟨w2.heap.size, 0, none⟩) 2 [varA s, numA]).mine v3 w2.heap.size ∧ v3.heap[w2.heap.size + 1]? = some (.cells #[.int .i64 6, .string ⟨#[]⟩, .int .i64 0, .slice (some ⟨w2.heap.size, 0, none⟩) 2 2] 33 (0, 0)) ∧ Below w2.heap.size w2 v3 ∧ v3.heap.size = w2.heap.size + 2 := by
 have b1 : Below w2.heap.size w2 (w2.alloc (.cells (cellsL [varA s, numA]).toArray 33)) := (Below.refl _ _).alloc (Nat.le_refl _) _
 have n1 := heap_alloc_new w2 (.cells (cellsL [varA s, numA]).toArray 33)
 subst hv
 have b2 := b1.alloc b1.size (.cells #[.int .i64 6, .string ⟨#[]⟩, .int .i64 0, .slice (some ⟨w2.heap.size, 0, none⟩) 2 2] 33)
 have n2 := (Lib.alloc_old (w2.alloc (.cells (cellsL [varA s, numA]).toArray 33)) (.cells #[.int .i64 6, .string ⟨#[]⟩, .int .i64 0, .slice (some ⟨w2.heap.size, 0, none⟩) 2 2] 33) w2.heap.size (by simp)).trans n1
 have n3 := heap_alloc_new (w2.alloc (.cells (cellsL [varA s, numA]).toArray 33)) (.cells #[.int .i64 6, .string ⟨#[]⟩, .int .i64 0, .slice (some ⟨w2.heap.size, 0, none⟩) 2 2] 33)
 rw [show (w2.alloc (.cells (cellsL [varA s, numA]).toArray 33)).heap.size = w2.heap.size + 1 by simp] at n3
 have hm := made_mine (n := w2.heap.size) (xs := [varA s, numA]) (k := 6) (m := 0) (s := ⟨#[]⟩) (w := w2) ⟨(leaf_mine w2 0 hs).tree.1, (leaf_mine w2 0 (s := ⟨#[]⟩) (by decide)).tree.1, trivial⟩ b2 n2 (Nat.le_refl _) (by unfold NewL; simp [feet, varA, numA, A.foot]) (Nat.le_refl _) (by decide) (by simp [maxLen])
 exact ⟨hm, n3, b2, by simp⟩
def nextA (s : ByteArray) (NB : Nat) : A := .node 6 ⟨#[]⟩ 0 (some ⟨NB, 0, none⟩) 2 [varA s, numA]
def setA (s : ByteArray) (NB bs : Nat) : A := .node 21 s 0 (some ⟨bs, 0, none⟩) 1 [nextA s NB]
theorem ownsRow_mono {w : World} {B B' e z : Nat} {v : Value} {n : Nat} {xs : List Value} (h : w.ownsRow B e z v n xs) (hB : B' ≤ B) : w.ownsRow B' e z v n xs := by
 refine ⟨h.1, ?_⟩
 rcases h.2 with h2 | ⟨g, cap, cur, e, hb, r⟩
 ·exact .inl h2
 ·exact .inr ⟨g, cap, cur, e, Nat.le_trans hB hb, r⟩
theorem setA_foot (s : ByteArray) (NB bs : Nat) : feet [setA s NB bs] = [bs, NB] := by simp [feet, setA, nextA, varA, numA, A.foot, blockOf]
/-- The block of a loop, its last statement appended. -/
theorem blk_done {v3 v5 w6 w7 : World} {s zs : ByteArray} {NB bs Z g cq zc : Nat} {zk zm : Int} {za : Option Addr} {zkk : List A} {TU : T} (hs : s.size ≤ maxLen) (hzs : zs.size ≤ maxLen) (hln : zkk.length ≤ 4000) (hn3 : NB < v3.heap.size) (hz3 : v3.heap.size ≤ Z) (hz5 : Z < v5.heap.size)
  (hnm : (nextA s NB).mine v3 NB) (hlt : ∀ q, (Value.slice za zkk.length zc).ownBlock = some q ∨ q ∈ feet zkk → v3.heap.size ≤ q ∧ q < Z) (hb5 : Below v3.heap.size v3 v5) (hb6 : Below v5.heap.size v5 w6) (hB6 : w6.heap[bs]? = some (.cells (cellsL [nextA s NB]).toArray 33 (0, 0))) (hge : v5.heap.size ≤ bs)
  (hoa : OwnA w6 v3.heap.size (.slice za zkk.length zc) zkk) (hZ7 : w7.heap[Z]? = some (.cells #[.int .i64 zk, .string zs, .int .i64 zm, .slice za zkk.length zc] 33 (0, 0))) (cs : Array Value)
  (hown : w7.ownsRow v3.heap.size 33 4 (.slice (some ⟨g, 0, none⟩) (zkk.length + 1) cq) (zkk.length + 1) (cellsL zkk ++ [.int .i64 21, .string s, .int .i64 0, .slice (some ⟨bs, 0, none⟩) 1 1])) (hgrow : (w6.alloc (.cells cs 33)).grownBy w7 (Value.slice za zkk.length zc).ownBlock)
  (hat : (Value.slice za zkk.length zc).ownBlock = some g ∨ g = w6.heap.size + 1) (he : (A.node zk zs zm za zc zkk).erase = TU) :
  ∃ x : A, (w7.setCell ⟨Z, 3, none⟩ (.slice (some ⟨g, 0, none⟩) (zkk.length + 1) cq)).heap[Z]? = some (.cells x.cells.toArray 33 (0, 0)) ∧ x.erase = addK TU (nextT s) ∧ x.mine (w7.setCell ⟨Z, 3, none⟩ (.slice (some ⟨g, 0, none⟩) (zkk.length + 1) cq)) NB ∧ Z ∉ x.blocks ∧ Below v3.heap.size v3 (w7.setCell ⟨Z, 3, none⟩ (.slice (some ⟨g, 0, none⟩) (zkk.length + 1) cq)) := by
 have h65 := hb6.size
 have n5 := hnm.below hb5
 have sm := made_mine (n := NB) (k := 21) (m := 0) (s := s) (sitsL_one n5.tree.1) hb6 hB6 hge (NewL.one n5.tree.2.1) (by omega) hs (by simp [maxLen])
 have st : Sits w6 (setA s NB bs) ∧ New NB (setA s NB bs) ∧ (setA s NB bs).room := sm.tree
 have hp := OwnA.push' (xs := [setA s NB bs]) (j := 1) (cs := cs) (hoa.mono (show NB ≤ v3.heap.size by omega)) (sitsL_one st.1) (NewL.one st.2.1) (fun q hq => by
  rw [setA_foot] at hq
  have hqq : q = bs ∨ q = NB := by simpa using hq
  refine ⟨fun h => ?_, fun h => ?_⟩
  ·have := hlt q (.inr h); omega
  ·have := hlt q (.inl h); omega) (ownsRow_mono hown (by omega)) hgrow hat rfl
 have hl : (zkk ++ [setA s NB bs]).length = zkk.length + 1 := by simp
 have xm : (A.node zk zs zm (some ⟨g, 0, none⟩) cq (zkk ++ [setA s NB bs])).mine w7 NB := ⟨hp, hzs, by rw [hl]; unfold maxLen; omega⟩
 have hg : g = g ∧ (v3.heap.size ≤ g ∧ g ≠ Z) := ⟨rfl, by
  rcases hat with h | h
  ·have := hlt g (.inl h); omega
  ·omega⟩
 have hZb : Z ∉ (A.node zk zs zm (some ⟨g, 0, none⟩) cq (zkk ++ [setA s NB bs])).blocks := by
  simp only [A.blocks, List.mem_append, feet_append, setA_foot, not_or]
  refine ⟨by simp [Value.ownBlock]; omega, fun h => ?_, by simp; omega⟩
  have := hlt Z (.inr h)
  omega
 have hset : w7.grownBy (w7.setCell ⟨Z, 3, none⟩ (.slice (some ⟨g, 0, none⟩) (zkk.length + 1) cq)) (some Z) := ⟨rfl, rfl, rfl, by simp [World.setCell], fun q _ hq => Below.heap_setCell _ _ _ _ (fun e => hq (by rw [e]))⟩
 refine ⟨_, ?_, ?_, xm.kept hset hZb, hZb, ?_⟩
 ·rw [heap_setCell_same w7 Z 3 _ 33 _ hZ7]
  simp [A.cells]
 ·subst he
  simp only [A.erase, addK, erases_append]
  rfl
 ·have b6 := below_step hb5 hb6
  have b7 := (b6.alloc b6.size (.cells cs 33)).grown hgrow (Nat.le_trans b6.size (by simp)) (fun q e => (hlt q (.inl e)).1)
  exact b7.setCell (p := ⟨Z, 3, none⟩) hz3 _

set_option maxRecDepth 100000 in
set_option maxHeartbeats 6400000 in
theorem loop_any (s : ByteArray) (m : Int) (t1 t2 t3 : T) (a : Option Addr) (cc : Nat) (w : World) (hs : s.size ≤ 8) (hk : Kids w 0 a [t1, t2, t3]) (h2 : PlainOk t2) (hf2 : formedT t2 = true) (hc2 : cnt t2 ≤ 500) (h3 : PlainOk t3) (hf3 : formedT t3 = true) (hc3 : cnt t3 ≤ 500) :
  Calls Tryz.prog 57 #[.agg #[.int .i64 26, .string s, .int .i64 m, .slice a 3 cc]] w (TPost (loopT s (plnT t2) (plnT t3)) w) := by
 obtain ⟨k2, s2, m2, kk2⟩ := t2
 obtain ⟨k3, s3, m3, kk3⟩ := t3
 have B1 : Below w.heap.size w ((w.alloc (.cells #[.int .i64 26, .string s, .int .i64 m, .slice a 3 cc] 33)).alloc (.cells #[.int .i64 0, .string ⟨#[]⟩, .int .i64 0, .slice none 0 0] 33)) := ((Below.refl w.heap.size w).alloc (Nat.le_refl _) _).alloc (by simp) _
 have F0 := Four.new w 26 s m a 3 cc 33
 have F1 := F0.below ((Below.refl _ _).alloc (Nat.le_refl _) (.cells #[.int .i64 0, .string ⟨#[]⟩, .int .i64 0, .slice none 0 0] 33))
 have h0 := heap_alloc_new (w.alloc (.cells #[.int .i64 26, .string s, .int .i64 m, .slice a 3 cc] 33)) (.cells #[.int .i64 0, .string ⟨#[]⟩, .int .i64 0, .slice none 0 0] 33)
 have hsz : (w.alloc (.cells #[.int .i64 26, .string s, .int .i64 m, .slice a 3 cc] 33)).heap.size = w.heap.size + 1 := by simp
 rw [hsz] at h0
 obtain ⟨P, hP⟩ : ∃ q, w.heap.size = q := ⟨_, rfl⟩
 obtain ⟨w1, hw1⟩ : ∃ q, (w.alloc (.cells #[.int .i64 26, .string s, .int .i64 m, .slice a 3 cc] 33)).alloc (.cells #[.int .i64 0, .string ⟨#[]⟩, .int .i64 0, .slice none 0 0] 33) = q := ⟨_, rfl⟩
 rw [hw1] at h0 F1 B1
 rw [hP] at h0 F1
 have HB := mkHid B1
 obtain ⟨b, o, xa, xc, rfl, hkd⟩ := kid_at hk B1 (i := 1) rfl
 have HKD := mkHid hkd
 have HCL := mkHid (fun W hW => h2 hf2 hc2 xa xc W (hkd W hW).2.2.2.2)
 obtain ⟨b', o', ya, yc, hbo, hke⟩ := kid_at hk B1 (i := 2) rfl
 cases hbo
 have HKE := mkHid hke
 have HCM := mkHid (fun W hW => h3 hf3 hc3 ya yc W (hke W hW).2.2.2.2)
 have HFP : Hid (∀ W, Below w1.heap.size w1 W → Four W P 26 s m (some ⟨b, o, none⟩) 3 cc) := mkHid (fun W hW => F1.below hW)
 have H0 := mkHid h0
 have hlt : P + 1 < w1.heap.size := heap_lt' h0
 obtain ⟨TT, hTT⟩ : ∃ q, plnT (.node k2 s2 m2 kk2) = q := ⟨_, rfl⟩
 obtain ⟨TU, hTU⟩ : ∃ q, plnT (.node k3 s3 m3 kk3) = q := ⟨_, rfl⟩
 rw [hTT] at HCL
 rw [hTU] at HCM
 rw [hTT, hTU]
 have HLN : Hid (∀ k s m a c kk, (A.node k s m a c kk).erase = TU → kk.length ≤ 4000) := mkHid (fun k s m a c kk e => by
  have h1 := (pln_cnt (.node k3 s3 m3 kk3)).1
  rw [hTU, ← e] at h1
  simp only [A.erase, cnt] at h1
  have h2 := len_cnts (erases kk)
  rw [erases_len] at h2
  have h3 : cnt (.node k3 s3 m3 kk3) ≤ 500 := hc3
  simp only [cnt] at h3
  omega)
 obtain ⟨i0, hi0, hz0⟩ := Option.map_eq_some_iff.1 Tryz.info33
 simp only [Prod.mk.injEq] at hz0
 obtain ⟨hz1, hz2, hz3⟩ := hz0
 have HI := mkHid (show Tryz.prog.info? 33 = some i0 ∧ i0.zero = some (.agg #[.int .i64 0, .string ByteArray.empty, .int .i64 0, .slice none 0 0]) ∧ i0.size = 4 ∧ i0.bytes = 56 from ⟨hi0, hz1, hz2, hz3⟩)
 clear hkd hke h2 hf2 hc2 h3 hf3 hc3 hk B1 F1 hTT hTU hi0 hz1 hz2 hz3
 go_enter Tryz.func57, Tryz.ntmps57
 go_upto_region 1 with fail
 first | rw [hw1] | skip
 first | rw [hP] | skip
 clear hw1 hsz F0 h0
 go_cut [3] from 6 to 15 (fun s3 v => ∃ (xb : A) (bc X : Nat), s3 = .pointer (some ⟨X, 0, none⟩) ∧ LoopI w1 v s TT true true true true xb bc X)
 case first =>
  refine wp_region_inv2 (fun zA0 L zA v => ∃ (zB : Nat → Bool) (zS : Nat → Value) (xb : A) (bc : Nat) (X : Nat), L = #[zB 0, zB 1, zB 2, zB 3, zB 4, zB 5, zB 6, zB 7, zB 8, zB 9, zB 10, zB 11] ∧ zA = puts zA0 [(6, zS 6), (7, zS 7), (8, zS 8), (9, zS 9), (10, zS 10), (11, zS 11), (12, zS 12), (13, zS 13), (14, zS 14), (15, zS 15), (3, zS 3)] ∧ ((zB 0 = true → zS 6 = .pointer (some ⟨P, 1, none⟩)) ∧ (zB 1 = true → zS 7 = .string s) ∧ (zB 2 = true → zS 8 = .agg #[.int .i64 2, .string s, .int .i64 0, .slice none 0 0]) ∧ (zB 3 = true → zS 9 = .pointer (some ⟨P, 3, none⟩)) ∧ (zB 4 = true → zS 10 = .slice (some ⟨b, o, none⟩) 3 cc) ∧ (zB 5 = true → zS 11 = .pointer (some ⟨b, o + 4, none⟩)) ∧ (zB 6 = true → zS 12 = .agg #[.int .i64 k2, .string s2, .int .i64 m2, .slice xa kk2.length xc]) ∧ (zB 7 = true → zS 13 = xb.val) ∧ (zB 8 = true → zS 14 = .slice (some ⟨bc, 0, none⟩) 2 2) ∧ (zB 9 = true → zS 15 = .agg #[.int .i64 11, .string ⟨#[]⟩, .int .i64 0, .slice (some ⟨bc, 0, none⟩) 2 2]) ∧ (zB 10 = true → zS 3 = .pointer (some ⟨X, 0, none⟩))) ∧ (LoopI w1 v s TT (zB 7) (zB 8) (zB 10) (zB 11) xb bc X ∧ ((zB 9) = true → (zB 8) = true))) (by kernel_rfl) ?_ ?_ ?_
  · exact ⟨fun _ => false, fun _ => undef, varA s, 0, 0, rfl, by kernel_rfl, ⟨fun e => ft e, fun e => ft e, fun e => ft e, fun e => ft e, fun e => ft e, fun e => ft e, fun e => ft e, fun e => ft e, fun e => ft e, fun e => ft e, fun e => ft e⟩, ⟨LoopI.start (Below.refl _ _).drew, fun e => ft e⟩⟩
  · refine StepsI.cons rfl ?_ ?_
    · rintro L zA v ⟨zB, zS, xb, bc, X, rfl, rfl, hF, hW⟩ hL hm K hK
      have hb0 : zB 0 = false := by simpa using hL
      clear hL hm
      simp only [puts, Act.put, List.setIfInBounds_toArray, List.set_cons_zero, List.set_cons_succ]
      go_simp
      exact hK.out _ _ ⟨fun zj => if zj = 0 then true else zB zj, fun zd => if zd = 6 then .pointer (some ⟨P, 1, none⟩) else zS zd, xb, bc, X, rfl, by kernel_rfl, ⟨fun _ => rfl, hF.2.1, hF.2.2.1, hF.2.2.2.1, hF.2.2.2.2.1, hF.2.2.2.2.2.1, hF.2.2.2.2.2.2.1, hF.2.2.2.2.2.2.2.1, hF.2.2.2.2.2.2.2.2.1, hF.2.2.2.2.2.2.2.2.2.1, hF.2.2.2.2.2.2.2.2.2.2⟩, hW⟩
    refine StepsI.cons rfl ?_ ?_
    · rintro L zA v ⟨zB, zS, xb, bc, X, rfl, rfl, hF, hW⟩ hL hm K hK
      have hb1 : zB 1 = false := by simpa using hL
      have hb0 : zB 0 = true := by cases e : zB 0 with | false => (exfalso; revert hm; simp [metB, Region.binds, e]) | true => rfl
      have e0 : zS 6 = .pointer (some ⟨P, 1, none⟩) := hF.1 hb0
      clear hL hm
      simp only [puts, Act.put, List.setIfInBounds_toArray, List.set_cons_zero, List.set_cons_succ]
      simp only [e0]
      obtain ⟨y0, y1, y2, y3⟩ := HFP.out _ hW.1.bel
      go_simp
      exact hK.out _ _ ⟨fun zj => if zj = 0 then true else if zj = 1 then true else zB zj, fun zd => if zd = 7 then .string s else if zd = 6 then .pointer (some ⟨P, 1, none⟩) else zS zd, xb, bc, X, by simp [hb0], by kernel_rfl, ⟨fun _ => rfl, fun _ => rfl, hF.2.2.1, hF.2.2.2.1, hF.2.2.2.2.1, hF.2.2.2.2.2.1, hF.2.2.2.2.2.2.1, hF.2.2.2.2.2.2.2.1, hF.2.2.2.2.2.2.2.2.1, hF.2.2.2.2.2.2.2.2.2.1, hF.2.2.2.2.2.2.2.2.2.2⟩, hW⟩
    refine StepsI.cons rfl ?_ ?_
    · rintro L zA v ⟨zB, zS, xb, bc, X, rfl, rfl, hF, hW⟩ hL hm K hK
      have hb2 : zB 2 = false := by simpa using hL
      have hb1 : zB 1 = true := by cases e : zB 1 with | false => (exfalso; revert hm; simp [metB, Region.binds, e]) | true => rfl
      have e1 : zS 7 = .string s := hF.2.1 hb1
      clear hL hm
      simp only [puts, Act.put, List.setIfInBounds_toArray, List.set_cons_zero, List.set_cons_succ]
      simp only [e1]
      go_simp
      go_at_call 71
      refine (varNamed_any s _ hs).mono ?_
      rintro e w3 ⟨rfl, hb3⟩
      simp only [A.val]
      exact hK.out _ _ ⟨fun zj => if zj = 1 then true else if zj = 2 then true else zB zj, fun zd => if zd = 8 then .agg #[.int .i64 2, .string s, .int .i64 0, .slice none 0 0] else if zd = 7 then .string s else zS zd, xb, bc, X, by simp [hb1], by kernel_rfl, ⟨hF.1, fun _ => rfl, fun _ => rfl, hF.2.2.2.1, hF.2.2.2.2.1, hF.2.2.2.2.2.1, hF.2.2.2.2.2.2.1, hF.2.2.2.2.2.2.2.1, hF.2.2.2.2.2.2.2.2.1, hF.2.2.2.2.2.2.2.2.2.1, hF.2.2.2.2.2.2.2.2.2.2⟩, ⟨hW.1.below hb3, hW.2⟩⟩
    refine StepsI.cons rfl ?_ ?_
    · rintro L zA v ⟨zB, zS, xb, bc, X, rfl, rfl, hF, hW⟩ hL hm K hK
      have hb3 : zB 3 = false := by simpa using hL
      clear hL hm
      simp only [puts, Act.put, List.setIfInBounds_toArray, List.set_cons_zero, List.set_cons_succ]
      go_simp
      exact hK.out _ _ ⟨fun zj => if zj = 3 then true else zB zj, fun zd => if zd = 9 then .pointer (some ⟨P, 3, none⟩) else zS zd, xb, bc, X, rfl, by kernel_rfl, ⟨hF.1, hF.2.1, hF.2.2.1, fun _ => rfl, hF.2.2.2.2.1, hF.2.2.2.2.2.1, hF.2.2.2.2.2.2.1, hF.2.2.2.2.2.2.2.1, hF.2.2.2.2.2.2.2.2.1, hF.2.2.2.2.2.2.2.2.2.1, hF.2.2.2.2.2.2.2.2.2.2⟩, hW⟩
    refine StepsI.cons rfl ?_ ?_
    · rintro L zA v ⟨zB, zS, xb, bc, X, rfl, rfl, hF, hW⟩ hL hm K hK
      have hb4 : zB 4 = false := by simpa using hL
      have hb3 : zB 3 = true := by cases e : zB 3 with | false => (exfalso; revert hm; simp [metB, Region.binds, e]) | true => rfl
      have e3 : zS 9 = .pointer (some ⟨P, 3, none⟩) := hF.2.2.2.1 hb3
      clear hL hm
      simp only [puts, Act.put, List.setIfInBounds_toArray, List.set_cons_zero, List.set_cons_succ]
      simp only [e3]
      obtain ⟨y0, y1, y2, y3⟩ := HFP.out _ hW.1.bel
      go_simp
      exact hK.out _ _ ⟨fun zj => if zj = 3 then true else if zj = 4 then true else zB zj, fun zd => if zd = 10 then .slice (some ⟨b, o, none⟩) 3 cc else if zd = 9 then .pointer (some ⟨P, 3, none⟩) else zS zd, xb, bc, X, by simp [hb3], by kernel_rfl, ⟨hF.1, hF.2.1, hF.2.2.1, fun _ => rfl, fun _ => rfl, hF.2.2.2.2.2.1, hF.2.2.2.2.2.2.1, hF.2.2.2.2.2.2.2.1, hF.2.2.2.2.2.2.2.2.1, hF.2.2.2.2.2.2.2.2.2.1, hF.2.2.2.2.2.2.2.2.2.2⟩, hW⟩
    refine StepsI.cons rfl ?_ ?_
    · rintro L zA v ⟨zB, zS, xb, bc, X, rfl, rfl, hF, hW⟩ hL hm K hK
      have hb5 : zB 5 = false := by simpa using hL
      have hb4 : zB 4 = true := by cases e : zB 4 with | false => (exfalso; revert hm; simp [metB, Region.binds, e]) | true => rfl
      have e4 : zS 10 = .slice (some ⟨b, o, none⟩) 3 cc := hF.2.2.2.2.1 hb4
      clear hL hm
      simp only [puts, Act.put, List.setIfInBounds_toArray, List.set_cons_zero, List.set_cons_succ]
      simp only [e4]
      go_simp
      exact hK.out _ _ ⟨fun zj => if zj = 4 then true else if zj = 5 then true else zB zj, fun zd => if zd = 11 then .pointer (some ⟨b, o + 4, none⟩) else if zd = 10 then .slice (some ⟨b, o, none⟩) 3 cc else zS zd, xb, bc, X, by simp [hb4], by kernel_rfl, ⟨hF.1, hF.2.1, hF.2.2.1, hF.2.2.2.1, fun _ => rfl, fun _ => rfl, hF.2.2.2.2.2.2.1, hF.2.2.2.2.2.2.2.1, hF.2.2.2.2.2.2.2.2.1, hF.2.2.2.2.2.2.2.2.2.1, hF.2.2.2.2.2.2.2.2.2.2⟩, hW⟩
    refine StepsI.cons rfl ?_ ?_
    · rintro L zA v ⟨zB, zS, xb, bc, X, rfl, rfl, hF, hW⟩ hL hm K hK
      have hb6 : zB 6 = false := by simpa using hL
      have hb5 : zB 5 = true := by cases e : zB 5 with | false => (exfalso; revert hm; simp [metB, Region.binds, e]) | true => rfl
      have e5 : zS 11 = .pointer (some ⟨b, o + 4, none⟩) := hF.2.2.2.2.2.1 hb5
      clear hL hm
      simp only [puts, Act.put, List.setIfInBounds_toArray, List.set_cons_zero, List.set_cons_succ]
      simp only [e5]
      obtain ⟨y0, y1, y2, y3, _⟩ := HKD.out _ hW.1.bel
      simp only [Nat.one_mul] at y0 y1 y2 y3
      go_simp
      exact hK.out _ _ ⟨fun zj => if zj = 5 then true else if zj = 6 then true else zB zj, fun zd => if zd = 12 then .agg #[.int .i64 k2, .string s2, .int .i64 m2, .slice xa kk2.length xc] else if zd = 11 then .pointer (some ⟨b, o + 4, none⟩) else zS zd, xb, bc, X, by simp [hb5], by kernel_rfl, ⟨hF.1, hF.2.1, hF.2.2.1, hF.2.2.2.1, hF.2.2.2.2.1, fun _ => rfl, fun _ => rfl, hF.2.2.2.2.2.2.2.1, hF.2.2.2.2.2.2.2.2.1, hF.2.2.2.2.2.2.2.2.2.1, hF.2.2.2.2.2.2.2.2.2.2⟩, hW⟩
    refine StepsI.cons rfl ?_ ?_
    · rintro L zA v ⟨zB, zS, xb, bc, X, rfl, rfl, hF, hW⟩ hL hm K hK
      have hb7 : zB 7 = false := by simpa using hL
      have hb6 : zB 6 = true := by cases e : zB 6 with | false => (exfalso; revert hm; simp [metB, Region.binds, e]) | true => rfl
      have e6 : zS 12 = .agg #[.int .i64 k2, .string s2, .int .i64 m2, .slice xa kk2.length xc] := hF.2.2.2.2.2.2.1 hb6
      clear hL hm
      rw [hb7] at hW
      simp only [puts, Act.put, List.setIfInBounds_toArray, List.set_cons_zero, List.set_cons_succ]
      simp only [e6]
      go_simp
      go_at_call 40
      refine (HCL.out _ hW.1.bel).mono ?_
      rintro e w3 ⟨x, rfl, hxe, hxm, hb3⟩
      exact hK.out _ _ ⟨fun zj => if zj = 6 then true else if zj = 7 then true else zB zj, fun zd => if zd = 13 then x.val else if zd = 12 then .agg #[.int .i64 k2, .string s2, .int .i64 m2, .slice xa kk2.length xc] else zS zd, x, bc, X, by simp [hb6], by kernel_rfl, ⟨hF.1, hF.2.1, hF.2.2.1, hF.2.2.2.1, hF.2.2.2.2.1, hF.2.2.2.2.2.1, fun _ => rfl, fun _ => rfl, hF.2.2.2.2.2.2.2.2.1, hF.2.2.2.2.2.2.2.2.2.1, hF.2.2.2.2.2.2.2.2.2.2⟩, ⟨hW.1.called hb3 hxm hxe, hW.2⟩⟩
    refine StepsI.cons rfl ?_ ?_
    · rintro L zA v ⟨zB, zS, xb, bc, X, rfl, rfl, hF, hW⟩ hL hm K hK
      have hb8 : zB 8 = false := by simpa using hL
      have hb2 : zB 2 = true := by cases e : zB 2 with | false => (exfalso; revert hm; simp [metB, Region.binds, e]) | true => rfl
      have hb7 : zB 7 = true := by cases e : zB 7 with | false => (exfalso; revert hm; simp [metB, Region.binds, e]) | true => rfl
      have e2 : zS 8 = .agg #[.int .i64 2, .string s, .int .i64 0, .slice none 0 0] := hF.2.2.1 hb2
      have e7 : zS 13 = xb.val := hF.2.2.2.2.2.2.2.1 hb7
      clear hL hm
      rw [hb8] at hW
      rw [hb7] at hW
      simp only [puts, Act.put, List.setIfInBounds_toArray, List.set_cons_zero, List.set_cons_succ]
      simp only [e2, e7]
      obtain ⟨zk, zs, zm, za, zc, zkk⟩ := xb
      simp only [A.val]
      go_simp
      exact hK.out _ _ ⟨fun zj => if zj = 7 then true else if zj = 2 then true else if zj = 8 then true else zB zj, fun zd => if zd = 14 then .slice (some ⟨v.heap.size, 0, none⟩) 2 2 else if zd = 13 then (A.node zk zs zm za zc zkk).val else if zd = 8 then .agg #[.int .i64 2, .string s, .int .i64 0, .slice none 0 0] else zS zd, (.node zk zs zm za zc zkk), v.heap.size, X, by simp [hb2, hb7], by kernel_rfl, ⟨hF.1, hF.2.1, fun _ => rfl, hF.2.2.2.1, hF.2.2.2.2.1, hF.2.2.2.2.2.1, hF.2.2.2.2.2.2.1, fun _ => rfl, fun _ => rfl, fun e => ft (hW.2 e), hF.2.2.2.2.2.2.2.2.2.2⟩, ⟨hW.1.laid, fun _ => rfl⟩⟩
    refine StepsI.cons rfl ?_ ?_
    · rintro L zA v ⟨zB, zS, xb, bc, X, rfl, rfl, hF, hW⟩ hL hm K hK
      have hb9 : zB 9 = false := by simpa using hL
      have hb8 : zB 8 = true := by cases e : zB 8 with | false => (exfalso; revert hm; simp [metB, Region.binds, e]) | true => rfl
      have e8 : zS 14 = .slice (some ⟨bc, 0, none⟩) 2 2 := hF.2.2.2.2.2.2.2.2.1 hb8
      clear hL hm
      rw [hb9] at hW
      rw [hb8] at hW
      simp only [puts, Act.put, List.setIfInBounds_toArray, List.set_cons_zero, List.set_cons_succ]
      simp only [e8]
      go_simp
      exact hK.out _ _ ⟨fun zj => if zj = 8 then true else if zj = 9 then true else zB zj, fun zd => if zd = 15 then .agg #[.int .i64 11, .string ⟨#[]⟩, .int .i64 0, .slice (some ⟨bc, 0, none⟩) 2 2] else if zd = 14 then .slice (some ⟨bc, 0, none⟩) 2 2 else zS zd, xb, bc, X, by simp [hb8], by kernel_rfl, ⟨hF.1, hF.2.1, hF.2.2.1, hF.2.2.2.1, hF.2.2.2.2.1, hF.2.2.2.2.2.1, hF.2.2.2.2.2.2.1, hF.2.2.2.2.2.2.2.1, fun _ => rfl, fun _ => rfl, hF.2.2.2.2.2.2.2.2.2.2⟩, ⟨hW.1, fun _ => rfl⟩⟩
    refine StepsI.cons rfl ?_ ?_
    · rintro L zA v ⟨zB, zS, xb, bc, X, rfl, rfl, hF, hW⟩ hL hm K hK
      have hb10 : zB 10 = false := by simpa using hL
      clear hL hm
      rw [hb10] at hW
      simp only [puts, Act.put, List.setIfInBounds_toArray, List.set_cons_zero, List.set_cons_succ]
      go_simp
      exact hK.out _ _ ⟨fun zj => if zj = 10 then true else zB zj, fun zd => if zd = 3 then .pointer (some ⟨v.heap.size, 0, none⟩) else zS zd, xb, bc, v.heap.size, rfl, by kernel_rfl, ⟨hF.1, hF.2.1, hF.2.2.1, hF.2.2.2.1, hF.2.2.2.2.1, hF.2.2.2.2.2.1, hF.2.2.2.2.2.2.1, hF.2.2.2.2.2.2.2.1, hF.2.2.2.2.2.2.2.2.1, hF.2.2.2.2.2.2.2.2.2.1, fun _ => rfl⟩, ⟨hW.1.boxed, hW.2⟩⟩
    refine StepsI.cons rfl ?_ ?_
    · rintro L zA v ⟨zB, zS, xb, bc, X, rfl, rfl, hF, hW⟩ hL hm K hK
      have hb11 : zB 11 = false := by simpa using hL
      have hb9 : zB 9 = true := by cases e : zB 9 with | false => (exfalso; revert hm; simp [metB, Region.binds, e]) | true => rfl
      have hb10 : zB 10 = true := by cases e : zB 10 with | false => (exfalso; revert hm; simp [metB, Region.binds, e]) | true => rfl
      have e9 : zS 15 = .agg #[.int .i64 11, .string ⟨#[]⟩, .int .i64 0, .slice (some ⟨bc, 0, none⟩) 2 2] := hF.2.2.2.2.2.2.2.2.2.1 hb9
      have e10 : zS 3 = .pointer (some ⟨X, 0, none⟩) := hF.2.2.2.2.2.2.2.2.2.2 hb10
      clear hL hm
      rw [hb11] at hW
      rw [hb9] at hW
      rw [hb10] at hW
      simp only [puts, Act.put, List.setIfInBounds_toArray, List.set_cons_zero, List.set_cons_succ]
      simp only [e9, e10]
      have h8 := hW.2 rfl
      have h7 := (hW.1.row h8).1
      rw [h8, h7] at hW
      have hx4 := (hW.1.box rfl).2.2.2
      rw [if_neg (by decide)] at hx4
      obtain ⟨y0, y1, y2, y3, y4, y5, y6, y7⟩ := four_of hx4
      have H8 := mkHid h8
      have H7 := mkHid h7
      clear h7 h8
      go_simp
      exact hK.out _ _ ⟨fun zj => if zj = 10 then true else if zj = 9 then true else if zj = 11 then true else zB zj, fun zd => if zd = 3 then .pointer (some ⟨X, 0, none⟩) else if zd = 15 then .agg #[.int .i64 11, .string ⟨#[]⟩, .int .i64 0, .slice (some ⟨bc, 0, none⟩) 2 2] else zS zd, xb, bc, X, by simp [hb9, hb10], by kernel_rfl, ⟨hF.1, hF.2.1, hF.2.2.1, hF.2.2.2.1, hF.2.2.2.2.1, hF.2.2.2.2.2.1, hF.2.2.2.2.2.2.1, hF.2.2.2.2.2.2.2.1, hF.2.2.2.2.2.2.2.2.1, fun _ => rfl, fun _ => rfl⟩, ⟨by show LoopI w1 _ s TT (zB 7) (zB 8) true true xb bc X; rw [H8.out, H7.out]; exact hW.1.stored, fun _ => H8.out⟩⟩
    exact StepsI.nil (by kernel_rfl)
  · rintro L zA v ⟨zB, zS, xb, bc, X, rfl, rfl, hF, hW⟩ hr
    have hu := all_up (by kernel_rfl) (N := 12) (by kernel_rfl) hr
    have hb0 : zB 0 = true := by simpa using hu 0 (by decide)
    have hb1 : zB 1 = true := by simpa using hu 1 (by decide)
    have hb2 : zB 2 = true := by simpa using hu 2 (by decide)
    have hb3 : zB 3 = true := by simpa using hu 3 (by decide)
    have hb4 : zB 4 = true := by simpa using hu 4 (by decide)
    have hb5 : zB 5 = true := by simpa using hu 5 (by decide)
    have hb6 : zB 6 = true := by simpa using hu 6 (by decide)
    have hb7 : zB 7 = true := by simpa using hu 7 (by decide)
    have hb8 : zB 8 = true := by simpa using hu 8 (by decide)
    have hb9 : zB 9 = true := by simpa using hu 9 (by decide)
    have hb10 : zB 10 = true := by simpa using hu 10 (by decide)
    have hb11 : zB 11 = true := by simpa using hu 11 (by decide)
    have e0 : zS 6 = .pointer (some ⟨P, 1, none⟩) := hF.1 hb0
    have e1 : zS 7 = .string s := hF.2.1 hb1
    have e2 : zS 8 = .agg #[.int .i64 2, .string s, .int .i64 0, .slice none 0 0] := hF.2.2.1 hb2
    have e3 : zS 9 = .pointer (some ⟨P, 3, none⟩) := hF.2.2.2.1 hb3
    have e4 : zS 10 = .slice (some ⟨b, o, none⟩) 3 cc := hF.2.2.2.2.1 hb4
    have e5 : zS 11 = .pointer (some ⟨b, o + 4, none⟩) := hF.2.2.2.2.2.1 hb5
    have e6 : zS 12 = .agg #[.int .i64 k2, .string s2, .int .i64 m2, .slice xa kk2.length xc] := hF.2.2.2.2.2.2.1 hb6
    have e7 : zS 13 = xb.val := hF.2.2.2.2.2.2.2.1 hb7
    have e8 : zS 14 = .slice (some ⟨bc, 0, none⟩) 2 2 := hF.2.2.2.2.2.2.2.2.1 hb8
    have e9 : zS 15 = .agg #[.int .i64 11, .string ⟨#[]⟩, .int .i64 0, .slice (some ⟨bc, 0, none⟩) 2 2] := hF.2.2.2.2.2.2.2.2.2.1 hb9
    have e10 : zS 3 = .pointer (some ⟨X, 0, none⟩) := hF.2.2.2.2.2.2.2.2.2.2 hb10
    rw [hb7] at hW
    rw [hb8] at hW
    rw [hb9] at hW
    rw [hb10] at hW
    rw [hb11] at hW
    clear hu hr hF
    simp only [puts, Act.put, List.setIfInBounds_toArray, List.set_cons_zero, List.set_cons_succ]
    simp only [e0, e1, e2, e3, e4, e5, e6, e7, e8, e9, e10]
    clear e0 e1 e2 e3 e4 e5 e6 e7 e8 e9 e10
    clear hb0 hb1 hb2 hb3 hb4 hb5 hb6 hb7 hb8 hb9 hb10 hb11
    clear zB zS
    go_wp2_with fail
    go_meet
    exact ⟨xb, bc, X, rfl, hW.1⟩
 case rest =>
  obtain ⟨xb, bc, X, rfl, hL⟩ := hcut
  obtain ⟨xc1, hcv, hcc, hce, hcm, hXn⟩ := hL.cond (by unfold maxLen; omega)
  have hbx := (hL.box rfl).2.2.2
  rw [if_pos rfl] at hbx
  have HX1 := mkHid hbx
  have HCV := mkHid (And.intro hcv hcc)
  have HCN := mkHid (And.intro hce hcm)
  have HXN := mkHid (And.intro (hL.box rfl).1 hXn)
  have HBL := mkHid hL.bel
  obtain ⟨p0, p1, p2, p3⟩ := HFP.out _ hL.bel
  clear hcv hcc hce hcm hXn hbx hL HCL HKD
  go_upto_region 3 with (go_at_call 71; refine (varNamed_any s _ hs).mono ?_; rintro e w2 ⟨rfl, hb2⟩; simp only [A.val])
  obtain ⟨v3, hv3⟩ : ∃ q, (w2.alloc (.cells #[.int .i64 2, .string s, .int .i64 0, .slice none 0 0, .int .i64 1, .string ⟨#[]⟩, .int .i64 1, .slice none 0 0] 33)).alloc (.cells #[.int .i64 6, .string ⟨#[]⟩, .int .i64 0, .slice (some ⟨w2.heap.size, 0, none⟩) 2 2] 33) = q := ⟨_, rfl⟩
  obtain ⟨nm, nh, nb, nz⟩ := next_made w2 s (by unfold maxLen; omega) hv3
  rw [hv3]
  obtain ⟨NB, hNB⟩ : ∃ q, w2.heap.size = q := ⟨_, rfl⟩
  rw [hNB] at nm nh nz
  rw [hNB]
  have HNM := mkHid nm
  have HNH := mkHid nh
  have hz2 := hb2.size
  rw [hNB] at hz2
  have HB3 := mkHid (below_step hb2 nb)
  have bel3 := below_step HBL.out HB3.out
  obtain ⟨q0, q1, q2, q3⟩ := HFP.out _ bel3
  obtain ⟨c0, c1, c2, c3, _⟩ := HKE.out _ bel3
  simp only [show 2 * 4 = 8 from rfl] at c0 c1 c2 c3
  have HBL3 := mkHid bel3
  clear hv3 nm nh nb hb2 bel3 hNB p0 p1 p2 p3
  go_upto_region 4 with (go_at_call 40; refine (HCM.out _ HBL3.out).mono ?_; rintro e w4 ⟨xk, rfl, hke, hkm, hb4⟩; obtain ⟨zk, zs, zm, za, zc, zkk⟩ := xk; simp only [A.val])
  have hln := HLN.out _ _ _ _ _ _ hke
  have A5 : Below w4.heap.size w4 (w4.alloc (.cells #[.int .i64 zk, .string zs, .int .i64 zm, .slice za zkk.length zc] 33)) := (Below.refl _ _).alloc (Nat.le_refl _) _
  have hZ5 := heap_alloc_new w4 (.cells #[.int .i64 zk, .string zs, .int .i64 zm, .slice za zkk.length zc] 33)
  obtain ⟨Z, hZ⟩ : ∃ q, w4.heap.size = q := ⟨_, rfl⟩
  obtain ⟨v5, hv5⟩ : ∃ q, w4.alloc (.cells #[.int .i64 zk, .string zs, .int .i64 zm, .slice za zkk.length zc] 33) = q := ⟨_, rfl⟩
  rw [hv5] at A5 hZ5
  rw [hZ] at hZ5
  rw [hv5, hZ]
  have HKM := mkHid hkm
  have hk5 := hkm.below A5
  have HK5 := mkHid hk5
  have B5 := below_step hb4 A5
  have HB5 := mkHid B5
  have HZ5 := mkHid hZ5
  have HY5 := mkHid ((B5.block (NB + 1) (heap_lt' HNH.out)).trans HNH.out)
  have hZl : Z < v5.heap.size := heap_lt' hZ5
  have hz4 := hb4.size
  rw [hZ] at hz4
  have HKE2 := mkHid hke
  have HZE := mkHid hZ
  obtain ⟨y0, y1, y2, y3, _⟩ := four_of HY5.out
  obtain ⟨d0, d1, d2, d3, d4, d5, d6, d7⟩ := four_of hZ5
  obtain ⟨r0, r1, r2, r3⟩ := HFP.out _ (below_step HBL3.out B5)
  clear hkm hk5 A5 hv5 hZ B5 hb4 hke hZ5 c0 c1 c2 c3 q0 q1 q2 q3 HKE HCM
  have HZM := mkHid (And.intro HK5.out.2.1 (And.intro hln (And.intro hz4 hZl)))
  go_cut [] from 27 to 35 (fun v => ∃ x : A, v.heap[Z]? = some (.cells x.cells.toArray 33 (0, 0)) ∧ x.erase = addK TU (nextT s) ∧ x.mine v NB ∧ Z ∉ x.blocks ∧ Below v3.heap.size v3 v)
  case first =>
   go_region_law (first | (go_simp; go_at_call 70; refine (setTo_any s (.node 6 ⟨#[]⟩ 0 (some ⟨NB, 0, none⟩) 2 [varA s, numA]) _ hs).mono ?_; rintro e w6 ⟨bs, rfl, hB6, hge6, hb6⟩; simp only [A.val]; have HB6 := mkHid hb6; have HBS := mkHid (And.intro hB6 hge6); have HZ6 := mkHid ((hb6.block Z hZl).trans HZ5.out); obtain ⟨e0, e1, e2, e3, e4, e5, e6, e7⟩ := four_of HZ6.out; have hp6 := heap_lt' HZ6.out; have OA := mkHid ((HK5.out.1.below (Below.refl _ _).drew).below hb6); have OW := mkHid (OA.out.own.alloc (.cells #[.int .i64 21, .string s, .int .i64 0, .slice (some ⟨bs, 0, none⟩) 1 1] 33)); clear hB6 hge6 hb6) | (refine step_append_lies _ (by rfl) _ _ _ (by rfl) v3.heap.size 33 i0 _ 4 56 Tryz.underlying31 HI.out.1 HI.out.2.1 HI.out.2.2.1 HI.out.2.2.2 rfl (by decide) _ _ _ (by rfl) OW.out ⟨w6.heap.size, 0, none⟩ 1 1 [.int .i64 21, .string s, .int .i64 0, .slice (some ⟨bs, 0, none⟩) 1 1] (by rfl) (by rfl) (World.news_of_block (heap_alloc_new w6 _)) (fun u hu => by simp at hu; rcases hu with rfl | rfl | rfl | rfl <;> rfl) (by decide) (by unfold maxLen; omega) (by omega) (by simp; omega) (w6.heap.size + 1) (by simp) ?_; intro g cq w7 hown hgrow hat hlt7; have K4 := (hgrow.block Z (by simp; omega) (fun e => by have := (HKM.out.1.own.lt Z e.symm).2; have := HZE.out; omega)).trans ((Lib.alloc_old w6 _ _ hp6).trans HZ6.out); have HK4 := mkHid K4; have HAP := mkHid (And.intro hown (And.intro hgrow hat)); clear e0 e1 e2 e3 e4 e5 e6 e7; obtain ⟨l0, l1, l2, l3, l4, l5, l6, l7⟩ := four_of K4; clear K4 hown hgrow hat OW))
   all_goals
    go_wp2_with fail
    go_meet
    exact blk_done (v5 := v5.drew) (by unfold maxLen; omega) HZM.out.1 hln (by omega) hz4 hZl HNM.out (fun q hq => by
     have hE := HZE.out
     rcases hq with hq | hq
     ·have := HKM.out.1.own.lt q hq; omega
     ·have := HKM.out.1.new.2 q hq
      have := SitsL.lt HKM.out.1.sits q hq
      omega) HB5.out.drew HB6.out HBS.out.1 HBS.out.2 OA.out HK4.out _ HAP.out.1 HAP.out.2.1 HAP.out.2.2 HKE2.out
  case rest =>
   obtain ⟨x, hxz, hxe, hxm, hxb, hb8⟩ := hcut
   have hc8 := (HCN.out.2.below HB3.out).below hb8
   have hX3 := (HB3.out.block X (heap_lt' HX1.out)).trans HX1.out
   have hX8 := (hb8.block X (heap_lt' hX3)).trans hX3
   have bel8 := below_step HBL3.out hb8
   have hR8 := (bel8.block (P + 1) hlt).trans H0.out
   have hdis : ∀ q, q ∈ xc1.foot → q < NB := fun q hq => by
    have := (HCN.out.2.lt (HCN.out.2.foot hq)).2
    omega
   obtain ⟨ka, sa, ma, aa, ca, kka⟩ := x
   simp only [A.cells] at hxz
   obtain ⟨a0, a1, a2, a3, _⟩ := four_of hX8
   obtain ⟨b0, b1, b2, b3, _⟩ := four_of hxz
   have hRA := (Lib.alloc_old wc (.cells #[.int .i64 11, .string ⟨#[]⟩, .int .i64 0, .slice (some ⟨bc, 0, none⟩) 2 2, .int .i64 ka, .string sa, .int .i64 ma, .slice aa kka.length ca] 33) (P + 1) (heap_lt' hR8)).trans hR8
   obtain ⟨e0, e1, e2, e3, e4, e5, e6, e7⟩ := four_of hRA
   have hrow : (cellsL [xc1, .node ka sa ma aa ca kka]).toArray = #[.int .i64 11, .string ⟨#[]⟩, .int .i64 0, .slice (some ⟨bc, 0, none⟩) 2 2, .int .i64 ka, .string sa, .int .i64 ma, .slice aa kka.length ca] := by simp only [cellsL, List.flatMap_cons, List.flatMap_nil, HCV.out.2]; rfl
   have HM8 := mkHid (made_mine (n := w1.heap.size) (xs := [xc1, .node ka sa ma aa ca kka]) (k := 25) (m := 0) (s := ⟨#[]⟩) (w := wc) ⟨hc8.tree.1, hxm.tree.1, trivial⟩ ((Below.refl _ _).alloc (Nat.le_refl _) (.cells (cellsL [xc1, .node ka sa ma aa ca kka]).toArray 33)) (heap_alloc_new wc _) (Nat.le_refl _) (by
    have n1 := hc8.tree.2.1
    have n2 := hxm.tree.2.1
    unfold NewL
    simp only [feet, List.append_nil]
    refine ⟨List.nodup_append.2 ⟨n1.1, n2.1, fun p hp q hq e => ?_⟩, fun q hq => ?_⟩
    ·have := hdis p hp
     have := n2.2 q hq
     omega
    ·rcases List.mem_append.1 hq with hq | hq
     ·exact n1.2 q hq
     ·have := n2.2 q hq
      have := HBL.out.size
      omega) bel8.size (by decide) (by simp [maxLen]))
   rw [hrow] at HM8
   have HER := mkHid (And.intro HCN.out.1 hxe)
   have HB8 := mkHid bel8
   have HRA := mkHid hRA
   clear hc8 hX3 hX8 bel8 hR8 hdis hxz hxe hxm hxb hb8 hRA
   go_wp2
   obtain ⟨q0, q1, q2, q3⟩ := put4_cells0 HRA.out (.int .i64 25) (.string ⟨#[]⟩) (.int .i64 0) (.slice (some ⟨wc.heap.size, 0, none⟩) 2 2)
   refine bodyPost_ret (v := .agg #[.int .i64 25, .string ⟨#[]⟩, .int .i64 0, .slice (some ⟨wc.heap.size, 0, none⟩) 2 2]) (by simp [results, Tryz.results57, go_sem, q0, q1, q2, q3]) rfl ⟨.node 25 ⟨#[]⟩ 0 (some ⟨wc.heap.size, 0, none⟩) 2 [xc1, .node ka sa ma aa ca kka], rfl, ?_, ?_, ?_⟩
   ·rw [erase2, HER.out.1, HER.out.2]; rfl
   ·exact (HM8.out.put4 hlt _ _ _ _).mono HB.out.size
   ·have b8 := below_step HB.out HB8.out
    exact below_put4 (b8.alloc b8.size _) (by omega) _ _ _ _
end Go.Proofs.YtpebfdplapeejaaGreatDoor
