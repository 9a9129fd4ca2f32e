/-
  CONTRACT of the program's plainTree.
-/
import Derived.Test.YtpebfdplapeejaaGreatDoorMCf
namespace Go.Proofs.YtpebfdplapeejaaGreatDoor
open Go.RowKit
open Pl

theorem cnt_in {kk : List T} {t : T} (h : t ∈ kk) : cnt t ≤ cnts kk := by
 induction kk with
 | nil => cases h
 | cons x r ih =>
  simp only [cnts]
  rcases List.mem_cons.1 h with rfl | h
  ·omega
  ·have := ih h; omega
theorem cnts_tk (kk : List T) (i : Nat) : cnts (kk.take i) ≤ cnts kk := by
 have := cnts_append (kk.take i) (kk.drop i)
 rw [List.take_append_drop] at this
 omega
theorem plnL_len (kk : List T) (i : Nat) : (plnL (kk.take i)).length ≤ 8 * cnts kk := by
 have h1 := len_cnts (plnL (kk.take i))
 have h2 := plnL_cnt (kk := kk.take i) (fun t _ => (pln_cnt t).2)
 have h3 := cnts_tk kk i
 omega
theorem plnL_take {kk : List T} {i : Nat} {t : T} (h : kk[i]? = some t) : plnL (kk.take (i + 1)) = plnL (kk.take i) ++ plnK t := by
 rw [take_snoc h, plnL_append]; simp [plnL]
/-- A row in a node's block has grown. -/
theorem grow_done {w1 wr w3 w4 : World} {B0 X g c2 j sc : Nat} {sa : Option Addr} {els xs : List A} {cs : Array Value} {k m : Int} {s : ByteArray} (h : OwnA wr B0 (.slice sa els.length sc) els) (hX : wr.heap[X]? = some (.cells #[.int .i64 k, .string s, .int .i64 m, .slice sa els.length sc] 33 (0, 0))) (hXB : X < B0) (hB : B0 ≤ wr.heap.size) (hX1 : w1.heap.size ≤ X)
  (hbel : Below w1.heap.size w1 wr) (hb : Below wr.heap.size wr w3) (hx : SitsL w3 xs) (hn : NewL wr.heap.size xs)
  (hown : w4.ownsRow B0 33 4 (.slice (some ⟨g, 0, none⟩) (els.length + j) c2) (els.length + j) (cellsL els ++ cellsL xs)) (hgrow : (w3.alloc (.cells cs 33)).grownBy w4 (Value.slice sa els.length sc).ownBlock) (hat : (Value.slice sa els.length sc).ownBlock = some g ∨ g = w3.heap.size + 1) (hj : xs.length = j) :
  OwnA (w4.setCell ⟨X, 3, none⟩ (.slice (some ⟨g, 0, none⟩) (els.length + j) c2)) B0 (.slice (some ⟨g, 0, none⟩) (els ++ xs).length c2) (els ++ xs) ∧ (w4.setCell ⟨X, 3, none⟩ (.slice (some ⟨g, 0, none⟩) (els.length + j) c2)).heap[X]? = some (.cells #[.int .i64 k, .string s, .int .i64 m, .slice (some ⟨g, 0, none⟩) (els ++ xs).length c2] 33 (0, 0)) ∧
  Below w1.heap.size w1 (w4.setCell ⟨X, 3, none⟩ (.slice (some ⟨g, 0, none⟩) (els.length + j) c2)) ∧ B0 ≤ (w4.setCell ⟨X, 3, none⟩ (.slice (some ⟨g, 0, none⟩) (els.length + j) c2)).heap.size := by
 have hp := h.push hb hx hn hB hown hgrow hat hj
 have hol := h.own.lt
 have hxl := heap_lt' hX
 have hz := hb.size
 have k4 : w4.heap[X]? = some (.cells #[.int .i64 k, .string s, .int .i64 m, .slice sa els.length sc] 33 (0, 0)) := (hgrow.block X (by simp; omega) (fun e => by have := (hol X e.symm).1; omega)).trans ((Lib.alloc_old w3 _ X (by omega)).trans ((hb.block X hxl).trans hX))
 have hset : w4.grownBy (w4.setCell ⟨X, 3, none⟩ (.slice (some ⟨g, 0, none⟩) (els.length + j) c2)) (some X) := ⟨rfl, rfl, rfl, by simp [World.setCell], fun q _ hq => Below.heap_setCell _ _ _ _ (fun e => hq (by rw [e]))⟩
 have hl : (els ++ xs).length = els.length + j := by simp [hj]
 have b3 := below_step hbel hb
 have hb1 := hbel.size
 have b4 := (b3.alloc b3.size (.cells cs 33)).grown hgrow (Nat.le_trans b3.size (by simp)) (fun q e => by have := (hol q e).1; omega)
 refine ⟨hp.grown hset (fun p e => by cases e; exact hXB), ?_, b4.setCell (p := ⟨X, 3, none⟩) hX1 _, ?_⟩
 ·rw [heap_setCell_same w4 X 3 _ 33 _ k4, hl]; rfl
 ·have := hgrow.size
  simp [World.setCell] at this ⊢
  omega
theorem pairA {wa wb : World} {n : Nat} {x y : A} (m1 : x.mine wa n) (hb : Below wa.heap.size wa wb) (m2 : y.mine wb wa.heap.size) (hn : n ≤ wa.heap.size) : SitsL wb [x, y] ∧ NewL n [x, y] := by
 have t1 := m1.tree
 have t2 := m2.tree
 refine ⟨⟨(m1.below hb).tree.1, t2.1, trivial⟩, ?_⟩
 have := NewL.append (NewL.one t1.2.1) (n1 := wa.heap.size) (fun b hb => by rw [feet_one] at hb; exact (m1.lt (m1.foot hb)).2) (NewL.one t2.2.1) hn
 exact this
theorem pairB {wa wb : World} {n : Nat} {x y : A} (m2 : y.mine wb n) (ha : Below wb.heap.size wb wa) (m1 : x.mine wa wb.heap.size) (hn : n ≤ wb.heap.size) : SitsL wa [x, y] ∧ NewL n [x, y] := by
 have t1 := m1.tree
 have t2 := m2.tree
 refine ⟨⟨t1.1, (m2.below ha).tree.1, trivial⟩, ?_⟩
 unfold NewL
 simp only [feet, List.append_nil]
 refine ⟨List.nodup_append.2 ⟨t1.2.1.1, t2.2.1.1, fun p hp q hq e => ?_⟩, fun b hb => ?_⟩
 ·have := t1.2.1.2 p hp
  have := (m2.lt (m2.foot hq)).2
  omega
 ·rcases List.mem_append.1 hb with hb | hb
  ·have := t1.2.1.2 b hb; omega
  ·exact t2.2.1.2 b hb
/-- The new node is there. -/
def BoxI (w1 v : World) (X : Nat) (k m : Int) (s : ByteArray) : Prop := v.heap[X]? = some (.cells #[.int .i64 k, .string s, .int .i64 m, .slice none 0 0] 33 (0, 0)) ∧ w1.heap.size ≤ X ∧ Below w1.heap.size w1 v
structure BoxJ (w1 v : World) (b8 b9 : Bool) (X : Nat) (k m : Int) (s : ByteArray) : Prop where
 bel : Below w1.heap.size w1 v
 ord : b9 = true → b8 = true
 box : b8 = true → w1.heap.size ≤ X ∧ v.heap[X]? = some (.cells (if b9 = true then #[.int .i64 k, .string s, .int .i64 m, .slice none 0 0] else zeroN) 33 (0, 0))
section
variable {w1 v v' : World} {b8 b9 : Bool} {X : Nat} {k m : Int} {s : ByteArray}
theorem BoxJ.below (h : BoxJ w1 v b8 b9 X k m s) (hb : Below v.heap.size v v') : BoxJ w1 v' b8 b9 X k m s :=
 ⟨below_step h.bel hb, h.ord, fun e => ⟨(h.box e).1, (hb.block X (heap_lt' (h.box e).2)).trans (h.box e).2⟩⟩
theorem BoxJ.boxed (h : BoxJ w1 v false b9 X k m s) : BoxJ w1 (v.alloc (.cells zeroN 33)) true b9 v.heap.size k m s := by
 obtain rfl : b9 = false := by cases b9 with | false => rfl | true => exact tf (h.ord rfl).symm
 exact ⟨h.bel.alloc h.bel.size _, fun e => ft e, fun _ => ⟨h.bel.size, by rw [if_neg (by decide)]; exact heap_alloc_new _ _⟩⟩
theorem BoxJ.stored (h : BoxJ w1 v true false X k m s) : BoxJ w1 (put4 v X (.int .i64 k) (.string s) (.int .i64 m) (.slice none 0 0)) true true X k m s := by
 obtain ⟨h1, h4⟩ := h.box rfl
 rw [if_neg (by decide)] at h4
 exact ⟨below_put4 h.bel h1 _ _ _ _, fun _ => rfl, fun _ => ⟨h1, by rw [if_pos rfl]; exact put4_at h4 _ _ _ _⟩⟩
theorem BoxJ.done (h : BoxJ w1 v true true X k m s) : BoxI w1 v X k m s := by
 obtain ⟨h1, h4⟩ := h.box rfl
 rw [if_pos rfl] at h4
 exact ⟨h4, h1, h.bel⟩
end

set_option maxRecDepth 100000 in
set_option maxHeartbeats 6400000 in
theorem plain_step (k : Int) (s : ByteArray) (m : Int) (kk : List T) (IH : ∀ t ∈ kk, PlainOk t ∧ ∀ t' ∈ kidsOf t, PlainOk t') : PlainOk (.node k s m kk) := by
 intro hf hc a cc w hk
 have hs := head_size (formed_parts hf).1
 have B1 : Below w.heap.size w ((w.alloc (.cells #[.int .i64 k, .string s, .int .i64 m, .slice a kk.length cc] 33)).alloc (.cells #[.int .i64 0, .string ⟨#[]⟩, .int .i64 0, .slice none 0 0] 33)) := ((Below.refl w.heap.size w).alloc (Nat.le_refl _) _).alloc (by simp) _
 have F0 := Four.new w k s m a kk.length cc 33
 have F1 := F0.below ((Below.refl _ _).alloc (Nat.le_refl _) (.cells #[.int .i64 0, .string ⟨#[]⟩, .int .i64 0, .slice none 0 0] 33))
 have h0 := heap_alloc_new (w.alloc (.cells #[.int .i64 k, .string s, .int .i64 m, .slice a kk.length cc] 33)) (.cells #[.int .i64 0, .string ⟨#[]⟩, .int .i64 0, .slice none 0 0] 33)
 have hsz : (w.alloc (.cells #[.int .i64 k, .string s, .int .i64 m, .slice a kk.length cc] 33)).heap.size = w.heap.size + 1 := by simp
 rw [hsz] at h0
 obtain ⟨P, hP⟩ : ∃ q, w.heap.size = q := ⟨_, rfl⟩
 obtain ⟨w1, hw1⟩ : ∃ q, (w.alloc (.cells #[.int .i64 k, .string s, .int .i64 m, .slice a kk.length cc] 33)).alloc (.cells #[.int .i64 0, .string ⟨#[]⟩, .int .i64 0, .slice none 0 0] 33) = q := ⟨_, rfl⟩
 rw [hw1] at h0 F1 B1
 rw [hP] at h0 F1
 have HB := mkHid B1
 have HK := mkHid (hk.below B1)
 have HFP : Hid (∀ W, Below w1.heap.size w1 W → Four W P k s m a kk.length cc) := mkHid (fun W hW => F1.below hW)
 obtain ⟨p0, p1, p2, p3⟩ := F1
 have H0 := mkHid h0
 have hlt : P + 1 < w1.heap.size := heap_lt' h0
 have HIH := mkHid IH
 have HFM := mkHid hf
 have hcs : cnts kk ≤ 499 := by simp only [cnt] at hc; omega
 have HCT := mkHid hcs
 have hlk := len_cnts kk
 have HC := mkHid (fun W => clone_any s W (by omega))
 obtain ⟨i0, hi0, hz0⟩ := Option.map_eq_some_iff.1 Tryz.info33
 simp only [Prod.mk.injEq] at hz0
 obtain ⟨hz1, hz2, hz3⟩ := hz0
 have HI := mkHid (show Tryz.prog.info? 33 = some i0 ∧ i0.zero = some (.agg #[.int .i64 0, .string ByteArray.empty, .int .i64 0, .slice none 0 0]) ∧ i0.size = 4 ∧ i0.bytes = 56 from ⟨hi0, hz1, hz2, hz3⟩)
 clear IH hf hc hk B1 hi0 hz1 hz2 hz3
 go_enter Tryz.func40, Tryz.ntmps40
 go_upto_region 1 with fail
 first | rw [hw1] | skip
 first | rw [hP] | skip
 clear hw1 hsz F0 h0
 go_cut [3] from 6 to 13 (fun s3 v => ∃ X : Nat, s3 = .pointer (some ⟨X, 0, none⟩) ∧ BoxI w1 v X k m s)
 case first =>
  refine wp_region_inv2 (fun zA0 L zA v => ∃ (zB : Nat → Bool) (zS : Nat → Value) (X : Nat), L = #[zB 0, zB 1, zB 2, zB 3, zB 4, zB 5, zB 6, zB 7, zB 8, zB 9] ∧ zA = puts zA0 [(6, zS 6), (7, zS 7), (8, zS 8), (9, zS 9), (10, zS 10), (11, zS 11), (12, zS 12), (13, zS 13), (3, zS 3)] ∧ ((zB 0 = true → zS 6 = .pointer (some ⟨P, 0, none⟩)) ∧ (zB 1 = true → zS 7 = .int .i64 k) ∧ (zB 2 = true → zS 8 = .pointer (some ⟨P, 1, none⟩)) ∧ (zB 3 = true → zS 9 = .string s) ∧ (zB 4 = true → zS 10 = .string s) ∧ (zB 5 = true → zS 11 = .pointer (some ⟨P, 2, none⟩)) ∧ (zB 6 = true → zS 12 = .int .i64 m) ∧ (zB 7 = true → zS 13 = .agg #[.int .i64 k, .string s, .int .i64 m, .slice none 0 0]) ∧ (zB 8 = true → zS 3 = .pointer (some ⟨X, 0, none⟩))) ∧ BoxJ w1 v (zB 8) (zB 9) X k m s) (by kernel_rfl) ?_ ?_ ?_
  · exact ⟨fun _ => false, fun _ => undef, 0, rfl, by kernel_rfl, ⟨fun e => ft e, fun e => ft e, fun e => ft e, fun e => ft e, fun e => ft e, fun e => ft e, fun e => ft e, fun e => ft e, fun e => ft e⟩, ⟨(Below.refl _ _).drew, fun e => ft e, fun e => ft e⟩⟩
  · refine StepsI.cons rfl ?_ ?_
    · rintro L zA v ⟨zB, zS, X, rfl, rfl, hF, hW⟩ hL hm K hK
      have hb0 : zB 0 = false := by simpa using hL
      clear hL hm
      simp only [puts, Act.put, List.setIfInBounds_toArray, List.set_cons_zero, List.set_cons_succ]
      go_simp
      exact hK.out _ _ ⟨fun zj => if zj = 0 then true else zB zj, fun zd => if zd = 6 then .pointer (some ⟨P, 0, none⟩) else zS zd, X, rfl, by kernel_rfl, ⟨fun _ => rfl, hF.2.1, hF.2.2.1, hF.2.2.2.1, hF.2.2.2.2.1, hF.2.2.2.2.2.1, hF.2.2.2.2.2.2.1, hF.2.2.2.2.2.2.2.1, hF.2.2.2.2.2.2.2.2⟩, hW⟩
    refine StepsI.cons rfl ?_ ?_
    · rintro L zA v ⟨zB, zS, X, rfl, rfl, hF, hW⟩ hL hm K hK
      have hb1 : zB 1 = false := by simpa using hL
      have hb0 : zB 0 = true := by cases e : zB 0 with | false => (exfalso; revert hm; simp [metB, Region.binds, e]) | true => rfl
      have e0 : zS 6 = .pointer (some ⟨P, 0, none⟩) := hF.1 hb0
      clear hL hm
      simp only [puts, Act.put, List.setIfInBounds_toArray, List.set_cons_zero, List.set_cons_succ]
      simp only [e0]
      obtain ⟨y0, y1, y2, y3⟩ := HFP.out _ hW.bel
      go_simp
      exact hK.out _ _ ⟨fun zj => if zj = 0 then true else if zj = 1 then true else zB zj, fun zd => if zd = 7 then .int .i64 k else if zd = 6 then .pointer (some ⟨P, 0, none⟩) else zS zd, X, by simp [hb0], by kernel_rfl, ⟨fun _ => rfl, fun _ => rfl, hF.2.2.1, hF.2.2.2.1, hF.2.2.2.2.1, hF.2.2.2.2.2.1, hF.2.2.2.2.2.2.1, hF.2.2.2.2.2.2.2.1, hF.2.2.2.2.2.2.2.2⟩, hW⟩
    refine StepsI.cons rfl ?_ ?_
    · rintro L zA v ⟨zB, zS, X, rfl, rfl, hF, hW⟩ hL hm K hK
      have hb2 : zB 2 = false := by simpa using hL
      clear hL hm
      simp only [puts, Act.put, List.setIfInBounds_toArray, List.set_cons_zero, List.set_cons_succ]
      go_simp
      exact hK.out _ _ ⟨fun zj => if zj = 2 then true else zB zj, fun zd => if zd = 8 then .pointer (some ⟨P, 1, none⟩) else zS zd, X, rfl, by kernel_rfl, ⟨hF.1, hF.2.1, fun _ => rfl, hF.2.2.2.1, hF.2.2.2.2.1, hF.2.2.2.2.2.1, hF.2.2.2.2.2.2.1, hF.2.2.2.2.2.2.2.1, hF.2.2.2.2.2.2.2.2⟩, hW⟩
    refine StepsI.cons rfl ?_ ?_
    · rintro L zA v ⟨zB, zS, X, rfl, rfl, hF, hW⟩ hL hm K hK
      have hb3 : zB 3 = false := by simpa using hL
      have hb2 : zB 2 = true := by cases e : zB 2 with | false => (exfalso; revert hm; simp [metB, Region.binds, e]) | true => rfl
      have e2 : zS 8 = .pointer (some ⟨P, 1, none⟩) := hF.2.2.1 hb2
      clear hL hm
      simp only [puts, Act.put, List.setIfInBounds_toArray, List.set_cons_zero, List.set_cons_succ]
      simp only [e2]
      obtain ⟨y0, y1, y2, y3⟩ := HFP.out _ hW.bel
      go_simp
      exact hK.out _ _ ⟨fun zj => if zj = 2 then true else if zj = 3 then true else zB zj, fun zd => if zd = 9 then .string s else if zd = 8 then .pointer (some ⟨P, 1, none⟩) else zS zd, X, by simp [hb2], by kernel_rfl, ⟨hF.1, hF.2.1, fun _ => rfl, fun _ => rfl, hF.2.2.2.2.1, hF.2.2.2.2.2.1, hF.2.2.2.2.2.2.1, hF.2.2.2.2.2.2.2.1, hF.2.2.2.2.2.2.2.2⟩, hW⟩
    refine StepsI.cons rfl ?_ ?_
    · rintro L zA v ⟨zB, zS, X, rfl, rfl, hF, hW⟩ hL hm K hK
      have hb4 : zB 4 = false := by simpa using hL
      have hb3 : zB 3 = true := by cases e : zB 3 with | false => (exfalso; revert hm; simp [metB, Region.binds, e]) | true => rfl
      have e3 : zS 9 = .string s := hF.2.2.2.1 hb3
      clear hL hm
      simp only [puts, Act.put, List.setIfInBounds_toArray, List.set_cons_zero, List.set_cons_succ]
      simp only [e3]
      go_simp
      go_at_call 15
      refine (HC.out _).mono ?_
      rintro e w3 ⟨rfl, hbq⟩
      exact hK.out _ _ ⟨fun zj => if zj = 3 then true else if zj = 4 then true else zB zj, fun zd => if zd = 10 then .string s else if zd = 9 then .string s else zS zd, X, by simp [hb3], by kernel_rfl, ⟨hF.1, hF.2.1, hF.2.2.1, fun _ => rfl, fun _ => rfl, hF.2.2.2.2.2.1, hF.2.2.2.2.2.2.1, hF.2.2.2.2.2.2.2.1, hF.2.2.2.2.2.2.2.2⟩, hW.below hbq⟩
    refine StepsI.cons rfl ?_ ?_
    · rintro L zA v ⟨zB, zS, X, rfl, rfl, hF, hW⟩ hL hm K hK
      have hb5 : zB 5 = false := by simpa using hL
      clear hL hm
      simp only [puts, Act.put, List.setIfInBounds_toArray, List.set_cons_zero, List.set_cons_succ]
      go_simp
      exact hK.out _ _ ⟨fun zj => if zj = 5 then true else zB zj, fun zd => if zd = 11 then .pointer (some ⟨P, 2, none⟩) else zS zd, X, rfl, by kernel_rfl, ⟨hF.1, hF.2.1, hF.2.2.1, hF.2.2.2.1, hF.2.2.2.2.1, fun _ => rfl, hF.2.2.2.2.2.2.1, hF.2.2.2.2.2.2.2.1, hF.2.2.2.2.2.2.2.2⟩, hW⟩
    refine StepsI.cons rfl ?_ ?_
    · rintro L zA v ⟨zB, zS, X, rfl, rfl, hF, hW⟩ hL hm K hK
      have hb6 : zB 6 = false := by simpa using hL
      have hb5 : zB 5 = true := by cases e : zB 5 with | false => (exfalso; revert hm; simp [metB, Region.binds, e]) | true => rfl
      have e5 : zS 11 = .pointer (some ⟨P, 2, none⟩) := hF.2.2.2.2.2.1 hb5
      clear hL hm
      simp only [puts, Act.put, List.setIfInBounds_toArray, List.set_cons_zero, List.set_cons_succ]
      simp only [e5]
      obtain ⟨y0, y1, y2, y3⟩ := HFP.out _ hW.bel
      go_simp
      exact hK.out _ _ ⟨fun zj => if zj = 5 then true else if zj = 6 then true else zB zj, fun zd => if zd = 12 then .int .i64 m else if zd = 11 then .pointer (some ⟨P, 2, none⟩) else zS zd, X, by simp [hb5], by kernel_rfl, ⟨hF.1, hF.2.1, hF.2.2.1, hF.2.2.2.1, hF.2.2.2.2.1, fun _ => rfl, fun _ => rfl, hF.2.2.2.2.2.2.2.1, hF.2.2.2.2.2.2.2.2⟩, hW⟩
    refine StepsI.cons rfl ?_ ?_
    · rintro L zA v ⟨zB, zS, X, rfl, rfl, hF, hW⟩ hL hm K hK
      have hb7 : zB 7 = false := by simpa using hL
      have hb1 : zB 1 = true := by cases e : zB 1 with | false => (exfalso; revert hm; simp [metB, Region.binds, e]) | true => rfl
      have hb4 : zB 4 = true := by cases e : zB 4 with | false => (exfalso; revert hm; simp [metB, Region.binds, e]) | true => rfl
      have hb6 : zB 6 = true := by cases e : zB 6 with | false => (exfalso; revert hm; simp [metB, Region.binds, e]) | true => rfl
      have e1 : zS 7 = .int .i64 k := hF.2.1 hb1
      have e4 : zS 10 = .string s := hF.2.2.2.2.1 hb4
      have e6 : zS 12 = .int .i64 m := hF.2.2.2.2.2.2.1 hb6
      clear hL hm
      simp only [puts, Act.put, List.setIfInBounds_toArray, List.set_cons_zero, List.set_cons_succ]
      simp only [e1, e4, e6]
      go_simp
      exact hK.out _ _ ⟨fun zj => if zj = 6 then true else if zj = 4 then true else if zj = 1 then true else if zj = 7 then true else zB zj, fun zd => if zd = 13 then .agg #[.int .i64 k, .string s, .int .i64 m, .slice none 0 0] else if zd = 12 then .int .i64 m else if zd = 10 then .string s else if zd = 7 then .int .i64 k else zS zd, X, by simp [hb1, hb4, hb6], by kernel_rfl, ⟨hF.1, fun _ => rfl, hF.2.2.1, hF.2.2.2.1, fun _ => rfl, hF.2.2.2.2.2.1, fun _ => rfl, fun _ => rfl, hF.2.2.2.2.2.2.2.2⟩, hW⟩
    refine StepsI.cons rfl ?_ ?_
    · rintro L zA v ⟨zB, zS, X, rfl, rfl, hF, hW⟩ hL hm K hK
      have hb8 : zB 8 = false := by simpa using hL
      clear hL hm
      rw [hb8] at hW
      simp only [puts, Act.put, List.setIfInBounds_toArray, List.set_cons_zero, List.set_cons_succ]
      go_simp
      exact hK.out _ _ ⟨fun zj => if zj = 8 then true else zB zj, fun zd => if zd = 3 then .pointer (some ⟨v.heap.size, 0, none⟩) else zS zd, v.heap.size, rfl, by kernel_rfl, ⟨hF.1, hF.2.1, hF.2.2.1, hF.2.2.2.1, hF.2.2.2.2.1, hF.2.2.2.2.2.1, hF.2.2.2.2.2.2.1, hF.2.2.2.2.2.2.2.1, fun _ => rfl⟩, hW.boxed⟩
    refine StepsI.cons rfl ?_ ?_
    · rintro L zA v ⟨zB, zS, X, rfl, rfl, hF, hW⟩ hL hm K hK
      have hb9 : zB 9 = false := by simpa using hL
      have hb7 : zB 7 = true := by cases e : zB 7 with | false => (exfalso; revert hm; simp [metB, Region.binds, e]) | true => rfl
      have hb8 : zB 8 = true := by cases e : zB 8 with | false => (exfalso; revert hm; simp [metB, Region.binds, e]) | true => rfl
      have e7 : zS 13 = .agg #[.int .i64 k, .string s, .int .i64 m, .slice none 0 0] := hF.2.2.2.2.2.2.2.1 hb7
      have e8 : zS 3 = .pointer (some ⟨X, 0, none⟩) := hF.2.2.2.2.2.2.2.2 hb8
      clear hL hm
      rw [hb9] at hW
      rw [hb8] at hW
      simp only [puts, Act.put, List.setIfInBounds_toArray, List.set_cons_zero, List.set_cons_succ]
      simp only [e7, e8]
      have hx4 := (hW.box rfl).2
      rw [if_neg (by decide)] at hx4
      obtain ⟨y0, y1, y2, y3, y4, y5, y6, y7⟩ := four_of hx4
      go_simp
      exact hK.out _ _ ⟨fun zj => if zj = 8 then true else if zj = 7 then true else if zj = 9 then true else zB zj, fun zd => if zd = 3 then .pointer (some ⟨X, 0, none⟩) else if zd = 13 then .agg #[.int .i64 k, .string s, .int .i64 m, .slice none 0 0] else zS zd, X, by simp [hb7, hb8], by kernel_rfl, ⟨hF.1, hF.2.1, hF.2.2.1, hF.2.2.2.1, hF.2.2.2.2.1, hF.2.2.2.2.2.1, hF.2.2.2.2.2.2.1, fun _ => rfl, fun _ => rfl⟩, hW.stored⟩
    exact StepsI.nil (by kernel_rfl)
  · rintro L zA v ⟨zB, zS, X, rfl, rfl, hF, hW⟩ hr
    have hu := all_up (by kernel_rfl) (N := 10) (by kernel_rfl) hr
    have hb0 : zB 0 = true := by simpa using hu 0 (by decide)
    have hb1 : zB 1 = true := by simpa using hu 1 (by decide)
    have hb2 : zB 2 = true := by simpa using hu 2 (by decide)
    have hb3 : zB 3 = true := by simpa using hu 3 (by decide)
    have hb4 : zB 4 = true := by simpa using hu 4 (by decide)
    have hb5 : zB 5 = true := by simpa using hu 5 (by decide)
    have hb6 : zB 6 = true := by simpa using hu 6 (by decide)
    have hb7 : zB 7 = true := by simpa using hu 7 (by decide)
    have hb8 : zB 8 = true := by simpa using hu 8 (by decide)
    have hb9 : zB 9 = true := by simpa using hu 9 (by decide)
    have e0 : zS 6 = .pointer (some ⟨P, 0, none⟩) := hF.1 hb0
    have e1 : zS 7 = .int .i64 k := hF.2.1 hb1
    have e2 : zS 8 = .pointer (some ⟨P, 1, none⟩) := hF.2.2.1 hb2
    have e3 : zS 9 = .string s := hF.2.2.2.1 hb3
    have e4 : zS 10 = .string s := hF.2.2.2.2.1 hb4
    have e5 : zS 11 = .pointer (some ⟨P, 2, none⟩) := hF.2.2.2.2.2.1 hb5
    have e6 : zS 12 = .int .i64 m := hF.2.2.2.2.2.2.1 hb6
    have e7 : zS 13 = .agg #[.int .i64 k, .string s, .int .i64 m, .slice none 0 0] := hF.2.2.2.2.2.2.2.1 hb7
    have e8 : zS 3 = .pointer (some ⟨X, 0, none⟩) := hF.2.2.2.2.2.2.2.2 hb8
    rw [hb8] at hW
    rw [hb9] at hW
    clear hu hr hF
    simp only [puts, Act.put, List.setIfInBounds_toArray, List.set_cons_zero, List.set_cons_succ]
    simp only [e0, e1, e2, e3, e4, e5, e6, e7, e8]
    clear e0 e1 e2 e3 e4 e5 e6 e7 e8
    clear hb0 hb1 hb2 hb3 hb4 hb5 hb6 hb7 hb8 hb9
    clear zB zS
    go_wp2_with fail
    go_meet
    exact ⟨X, rfl, hW.done⟩
 case rest =>
  obtain ⟨X, rfl, hX, hX1, hbx⟩ := hcut
  obtain ⟨B0, hB0⟩ : ∃ q, wc.heap.size = q := ⟨_, rfl⟩
  have hXB : X < B0 := by rw [← hB0]; exact heap_lt' hX
  obtain ⟨q0, q1, q2, q3⟩ := HFP.out _ hbx
  have HX0 := mkHid hX
  have HBX := mkHid hbx
  have HB0 := mkHid hB0
  clear hX hbx hB0 p0 p1 p2 p3 HC
  go_wp2
  go_loopg [17] kk.length (fun g s17 wr => ∃ (i : Nat) (els : List A) (sa : Option Addr) (sc : Nat), i + g = kk.length ∧ s17 = .int .i64 i ∧ OwnA wr B0 (.slice sa els.length sc) els ∧ erases els = plnL (kk.take i) ∧ wr.heap[X]? = some (.cells #[.int .i64 k, .string s, .int .i64 m, .slice sa els.length sc] 33 (0, 0)) ∧ Below w1.heap.size w1 wr ∧ B0 ≤ wr.heap.size)
  case atStart => exact ⟨0, [], none, 0, by omega, rfl, OwnA.nil _ _, rfl, HX0.out, HBX.out, Nat.le_of_eq HB0.out.symm⟩
  case round =>
   obtain ⟨i, els, sa, sc, hig, rfl, hoa, her, hX, hbel, hBw⟩ := hrel
   have HOA := mkHid hoa
   have HER := mkHid her
   have HXW := mkHid hX
   have HBW := mkHid hbel
   have hel : els.length ≤ 3992 := by
    have h1 := plnL_len kk i
    rw [← her, erases_len] at h1
    have := HCT.out
    omega
   clear hoa her
   by_cases hil : i < kk.length
   ·obtain ⟨x, hx⟩ : ∃ x, kk[i]? = some x := ⟨_, List.getElem?_eq_getElem hil⟩
    have hmem := List.mem_of_getElem? hx
    obtain ⟨hp1, hp2⟩ := HIH.out x hmem
    have hfx := formed_kid HFM.out hmem
    have hcx : cnt x ≤ 500 := by have := cnt_in hmem; have := HCT.out; omega
    have HPT := mkHid (plnL_take hx)
    obtain ⟨xk, xs, xm, xkk⟩ := x
    obtain ⟨b, o, xa, xc, rfl, c0, c1, c2, c3, hxs, hxn, hxk⟩ := node_at HK.out hbel hx
    have i0' : (0 : Int) ≤ (i : Int) := by omega
    have i1 : (i : Int) < (kk.length : Int) := by omega
    obtain ⟨g1, rfl⟩ : ∃ q, gk = q + 1 := ⟨gk - 1, by omega⟩
    have w3 : IntKind.i64.wrap ((i : Int) + 1) = (i : Int) + 1 := IntWalk.i64_in _ (by omega)
    obtain ⟨Y, hY⟩ : ∃ q, wr.heap.size = q := ⟨_, rfl⟩
    obtain ⟨w5, hw5⟩ : ∃ q, wr.alloc (.cells #[.int .i64 xk, .string xs, .int .i64 xm, .slice xa xkk.length xc] 33) = q := ⟨_, rfl⟩
    have AL : Below wr.heap.size wr w5 := by rw [← hw5]; exact (Below.refl _ _).alloc (Nat.le_refl _) _
    have F0 := Four.new wr xk xs xm xa xkk.length xc 33
    rw [hw5, hY] at F0
    obtain ⟨p0, p1, p2, p3⟩ := F0
    have HAL := mkHid AL
    have HKX := mkHid hxk
    have X5 := (AL.block X (heap_lt' hX)).trans hX
    obtain ⟨d0, d1, d2, d3, d4, d5, d6, d7⟩ := four_of X5
    have HX5 := mkHid X5
    have hx5 := heap_lt' X5
    clear hx hbel hX AL X5 hxs hxn hxk
    by_cases h26 : xk = 26
    ·subst h26
     obtain ⟨ta, tb, tc, rfl, ga, gb, kc, fc⟩ := formed_for hfx
     have hs8 := head_size (formed_parts hfx).1
     simp only [cnt, cnts] at hcx
     simp only [List.length_cons, List.length_nil, Nat.zero_add, Nat.reduceAdd] at c3 p3 hw5
     have HS1 := mkHid (fun W (hW : Below wr.heap.size wr W) => start_any xs xm ta tb tc xa xc W hs8 (HKX.out.below hW) (hp2 ta (by simp [kidsOf])) ga.1 (by omega))
     have HS2 := mkHid (fun W (hW : Below wr.heap.size wr W) => loop_any xs xm ta tb tc xa xc W hs8 (HKX.out.below hW) (hp2 tb (by simp [kidsOf])) gb.1 (by omega) (hp2 tc (by simp [kidsOf])) fc (by omega))
     have HPK := mkHid (plnK_for (s := xs) (m := xm) (a := ta) (b := tb) (c := tc))
     have HFD : Hid (∀ W, Below w5.heap.size w5 W → Four W Y 26 xs xm xa 3 xc) := mkHid (fun W hW => Four.below ⟨p0, p1, p2, p3⟩ hW)
     clear hp1 hp2 ga gb kc fc
     go_wp2_with fail
     first | rw [hw5] | skip
     first | rw [hY] | skip
     clear hw5 hY
     have HB9 := mkHid HAL.out.drew
     have HB5 : Hid (Below w5.heap.size w5 w5.drew) := mkHid (Below.refl _ _).drew
     have HXN := mkHid (show w5.drew.heap[X]? = _ from HX5.out)
     have hpn : X < w5.drew.heap.size := hx5
     go_region_law (first | (go_simp; go_at_call 56; refine (HS1.out _ HB9.out).mono ?_; rintro e wn ⟨x1, rfl, hxe, hxm, hbn⟩; obtain ⟨zk, zs, zm, za, zc, zkk⟩ := x1; simp only [A.val]; have HXN := mkHid ((hbn.block X hpn).trans HXN.out); have HB9 := mkHid (below_step HB9.out hbn); have HB5 := mkHid (below_step HB5.out hbn); obtain ⟨s0, s1, s2, s3⟩ := HFD.out _ HB5.out; have hpn := heap_lt' HXN.out; obtain ⟨e0, e1, e2, e3, e4, e5, e6, e7⟩ := four_of HXN.out; have OA := mkHid (HOA.out.below HB9.out); have HM1 := mkHid (And.intro hxe (And.intro hxm hbn)); clear hxe hxm hbn) | (go_simp; go_at_call 57; refine (HS2.out _ HB9.out).mono ?_; rintro e wn ⟨x2, rfl, hxe, hxm, hbn⟩; obtain ⟨yk, ys, ym, ya, yc, ykk⟩ := x2; simp only [A.val]; have HXN := mkHid ((hbn.block X hpn).trans HXN.out); have HB9 := mkHid (below_step HB9.out hbn); have HB5 := mkHid (below_step HB5.out hbn); obtain ⟨s0, s1, s2, s3⟩ := HFD.out _ HB5.out; have hpn := heap_lt' HXN.out; obtain ⟨e0, e1, e2, e3, e4, e5, e6, e7⟩ := four_of HXN.out; have OA := mkHid (HOA.out.below HB9.out); have HM2 := mkHid (And.intro hxe (And.intro hxm hbn)); clear hxe hxm hbn) | (refine step_append_lies _ (by rfl) _ _ _ (by rfl) B0 33 i0 _ 4 56 Tryz.underlying31 HI.out.1 HI.out.2.1 HI.out.2.2.1 HI.out.2.2.2 rfl (by decide) _ _ _ (by rfl) (OA.out.own.alloc _) ⟨wn.heap.size, 0, none⟩ 2 2 [.int .i64 zk, .string zs, .int .i64 zm, .slice za zkk.length zc, .int .i64 yk, .string ys, .int .i64 ym, .slice ya ykk.length yc] (by rfl) (by rfl) (World.news_of_block (heap_alloc_new wn _)) (fun u hu => by simp at hu; rcases hu with rfl | rfl | rfl | rfl | rfl | rfl | rfl | rfl <;> rfl) (by decide) (by unfold maxLen; omega) (by omega) (by have := HB9.out.size; simp; omega) (wn.heap.size + 1) (by simp) ?_; intro g cq w4 hown hgrow hat hlt4; have K4 := (hgrow.block X (by simp; omega) (fun e => by have := (OA.out.own.lt X e.symm).1; omega)).trans ((Lib.alloc_old wn _ _ hpn).trans HXN.out); have HAP := mkHid (And.intro hown (And.intro hgrow hat)); clear e0 e1 e2 e3 e4 e5 e6 e7; obtain ⟨l0, l1, l2, l3, l4, l5, l6, l7⟩ := four_of K4; clear K4 hown hgrow hat))
     all_goals
      have hn5 := HAL.out.size
      have hpr : SitsL wn [A.node zk zs zm za zc zkk, A.node yk ys ym ya yc ykk] ∧ NewL w5.heap.size [A.node zk zs zm za zc zkk, A.node yk ys ym ya yc ykk] := by first | exact pairA HM1.out.2.1 HM2.out.2.2 HM2.out.2.1 HM1.out.2.2.size | exact pairB HM2.out.2.1 HM1.out.2.2 HM1.out.2.1 HM2.out.2.2.size
      have HD := mkHid (grow_done HOA.out HXW.out hXB hBw hX1 HBW.out HB9.out hpr.1 (hpr.2.mono hn5) HAP.out.1 HAP.out.2.1 HAP.out.2.2 rfl)
      have HEE : Hid (erases (els ++ [A.node zk zs zm za zc zkk, A.node yk ys ym ya yc ykk]) = plnL (kk.take (i + 1))) := mkHid (by rw [erases_append, HER.out, HPT.out, HPK.out]; simp only [erases, HM1.out.1, HM2.out.1])
      go_wp2
      go_roundg g1
      case rel => exact ⟨i + 1, _, _, _, by omega, by simp, HD.out.1, HEE.out, HD.out.2.1, HD.out.2.2.1, HD.out.2.2.2⟩
      case measure => omega
    ·have hk26 : (xk == 26) = false := by simpa using h26
     have HCL := mkHid (fun W (hW : Below wr.heap.size wr W) => hp1 hfx hcx xa xc W (HKX.out.below hW))
     have HPK := mkHid (plnK_other (t := .node xk xs xm xkk) h26)
     clear hp1 hp2
     go_wp2_with fail
     first | rw [hw5] | skip
     first | rw [hY] | skip
     clear hw5 hY
     have HB9 := mkHid HAL.out.drew
     have HXN := mkHid (show w5.drew.heap[X]? = _ from HX5.out)
     have hpn : X < w5.drew.heap.size := hx5
     go_region_law (first | (go_simp; go_at_call 40; refine (HCL.out _ HB9.out).mono ?_; rintro e wn ⟨x1, rfl, hxe, hxm, hbn⟩; obtain ⟨zk, zs, zm, za, zc, zkk⟩ := x1; simp only [A.val]; have HXN := mkHid ((hbn.block X hpn).trans HXN.out); have HB9 := mkHid (below_step HB9.out hbn); have hpn := heap_lt' HXN.out; obtain ⟨e0, e1, e2, e3, e4, e5, e6, e7⟩ := four_of HXN.out; have OA := mkHid (HOA.out.below HB9.out); have OW := mkHid (OA.out.own.alloc (.cells #[.int .i64 zk, .string zs, .int .i64 zm, .slice za zkk.length zc] 33)); have HM1 := mkHid (And.intro hxe (And.intro hxm hbn)); clear hxe hxm hbn) | (refine step_append_lies _ (by rfl) _ _ _ (by rfl) B0 33 i0 _ 4 56 Tryz.underlying31 HI.out.1 HI.out.2.1 HI.out.2.2.1 HI.out.2.2.2 rfl (by decide) _ _ _ (by rfl) OW.out ⟨wn.heap.size, 0, none⟩ 1 1 [.int .i64 zk, .string zs, .int .i64 zm, .slice za zkk.length zc] (by rfl) (by rfl) (World.news_of_block (heap_alloc_new wn _)) (fun u hu => by simp at hu; rcases hu with rfl | rfl | rfl | rfl <;> rfl) (by decide) (by unfold maxLen; omega) (by omega) (by have := HB9.out.size; simp; omega) (wn.heap.size + 1) (by simp) ?_; intro g cq w4 hown hgrow hat hlt4; have K4 := (hgrow.block X (by simp; omega) (fun e => by have := (OA.out.own.lt X e.symm).1; omega)).trans ((Lib.alloc_old wn _ _ hpn).trans HXN.out); have HAP := mkHid (And.intro hown (And.intro hgrow hat)); clear e0 e1 e2 e3 e4 e5 e6 e7; obtain ⟨l0, l1, l2, l3, l4, l5, l6, l7⟩ := four_of K4; clear K4 hown hgrow hat OW))
     all_goals
      have hn5 := HAL.out.size
      have hmt := HM1.out.2.1.tree
      have HD := mkHid (grow_done HOA.out HXW.out hXB hBw hX1 HBW.out HB9.out (sitsL_one hmt.1) (NewL.one (hmt.2.1.mono hn5)) HAP.out.1 HAP.out.2.1 HAP.out.2.2 rfl)
      have HEE : Hid (erases (els ++ [A.node zk zs zm za zc zkk]) = plnL (kk.take (i + 1))) := mkHid (by rw [erases_append, HER.out, HPT.out, HPK.out]; simp only [erases, HM1.out.1])
      go_wp2
      go_roundg g1
      case rel => exact ⟨i + 1, _, _, _, by omega, by simp, HD.out.1, HEE.out, HD.out.2.1, HD.out.2.2.1, HD.out.2.2.2⟩
      case measure => omega
   ·have hik : i = kk.length := by omega
    subst hik
    have i1 : ¬ (kk.length : Int) < (kk.length : Int) := by omega
    have X5 := HXW.out
    obtain ⟨d0, d1, d2, d3, d4, d5, d6, d7⟩ := four_of X5
    have hR := (HBW.out.block (P + 1) hlt).trans H0.out
    obtain ⟨e0, e1, e2, e3, e4, e5, e6, e7⟩ := four_of hR
    have HR := mkHid hR
    have HEE : Hid (erases els = plnL kk) := mkHid (by rw [HER.out, List.take_length])
    have hb1 := HBW.out.size
    clear X5 hR
    go_wp2
    obtain ⟨q0, q1, q2, q3⟩ := put4_cells0 HR.out (.int .i64 k) (.string s) (.int .i64 m) (.slice sa els.length sc)
    have hm : (A.node k s m sa sc els).mine wr B0 := ⟨HOA.out, by unfold maxLen; omega, by unfold maxLen; omega⟩
    refine bodyPost_ret (v := (A.node k s m sa sc els).val) (by simp [results, Tryz.results40, go_sem, q0, q1, q2, q3, A.val]) rfl ⟨_, rfl, ?_, ?_, ?_⟩
    ·simp only [A.erase, HEE.out, plnT]
    ·have hb0 := HB.out.size
     exact (hm.put4 (by omega) _ _ _ _).mono (by omega)
    ·exact below_put4 (below_step HB.out HBW.out) (by omega) _ _ _ _
end Go.Proofs.YtpebfdplapeejaaGreatDoor
