/-
  CONTRACTS of the law's eqSymSS, markSymSS, heldSymSS.
  CONTRACTS of the law's eqSeg, markSeg, heldSeg.
  PURE: what the specification asks of a Seg, row by row.
  CONTRACTS of the program's isBound, areBounds, isInLimits, areValsOk, SegOk.
-/
import Derived.Test.YtihpajiololfoaaGreatCb03
import Derived.Test.YtihpajiololfoaaGreatCb14
import Derived.Test.YtihpajiololfoaaGreatCb04
import Derived.Test.YtihpajiololfoaaGreatCb13
namespace Go.Proofs.YtihpajiololfoaaGreat
open Go.RowKit

set_option maxRecDepth 100000 in
set_option maxHeartbeats 800000 in
theorem eqSymSS_of (ls : List (List Y)) (b off c b' off' c' : Nat) (w : World) (hn : ls.length ≤ maxLen) (hr : ∀ (i : Nat) (l : List Y), ls[i]? = some l → l.length ≤ maxLen)
  (hl : ∀ (i : Nat) (l : List Y), ls[i]? = some l → ∃ ao cap, w.cell? ⟨b, off + i, none⟩ = some (.slice ao l.length cap) ∧ At eY w ao l)
  (hl' : ∀ (i : Nat) (l : List Y), ls[i]? = some l → ∃ ao cap, w.cell? ⟨b', off' + i, none⟩ = some (.slice ao l.length cap) ∧ At eY w ao l) :
  Calls Tryz.prog 46 #[.slice (some ⟨b, off, none⟩) ls.length c, .slice (some ⟨b', off', none⟩) ls.length c'] w fun e w' => e = .returned (.bool true) ∧ Below w.heap.size w w' := by
 unfold maxLen at hn
 have HR := mkHid hr
 have HL := mkHid hl
 have HL' := mkHid hl'
 clear hl hl' hr
 go_enter Tryz.func46, Tryz.ntmps46
 go_wp2
 go_loopw [5] (fun i w' => ∃ (k : Nat), k ≤ ls.length ∧ i = .int .i64 k ∧ Below w.heap.size w w') (fun i _ => ls.length - (intOf i).toNat)
 case atStart => exact ⟨0, Nat.zero_le _, rfl, Below.refl _ _⟩
 case round =>
  obtain ⟨k, hk, rfl, hbel⟩ := hrel
  have HB := mkHid hbel
  by_cases hlt : k < ls.length
  ·obtain ⟨l, hx⟩ : ∃ l, ls[k]? = some l := ⟨_, List.getElem?_eq_getElem hlt⟩
   obtain ⟨xa, xc, h1, hi1⟩ := HL.out k l hx
   obtain ⟨ya, yc, h2, hi2⟩ := HL'.out k l hx
   have HM := mkHid (HR.out k l hx)
   have hc1 : wr.cell? ⟨b, off + k, none⟩ = some (.slice xa l.length xc) := (hbel.cell (p := ⟨b, off + k, none⟩) (World.block_lt_of_cell? w _ h1)).trans h1
   have hc2 : wr.cell? ⟨b', off' + k, none⟩ = some (.slice ya l.length yc) := (hbel.cell (p := ⟨b', off' + k, none⟩) (World.block_lt_of_cell? w _ h2)).trans h2
   have HK := mkHid (hi1.below hbel)
   have HK' := mkHid (hi2.below hbel)
   have hlb := World.block_lt_of_cell? wr _ hc1
   have hlb' := World.block_lt_of_cell? wr _ hc2
   dsimp only at hlb hlb'
   clear hx h1 h2 hbel hi1 hi2
   have i0 : (0 : Int) ≤ (k : Int) := by omega
   have i1 : (k : Int) < (ls.length : Int) := by omega
   go_wp2
   go_region_held3 (fun w' => w'.cell? ⟨b, off + k, none⟩ = some (.slice xa l.length xc) ∧ w'.cell? ⟨b', off' + k, none⟩ = some (.slice ya l.length yc)) (first | exact ⟨hc1, hc2⟩ | exact ⟨(hc _ _ hlb).trans hc1, (hc _ _ hlb').trans hc2⟩)
    (first | (go_at_call 92; refine (eqSymS_same l xa ya xc yc _ HM.out (HK.out.below (Below.refl _ _).drew) (HK'.out.below (Below.refl _ _).drew)).mono ?_; rintro e w1 ⟨rfl, hb1⟩; obtain ⟨hc, hf⟩ := bcell hb1))
   have HB1 : Hid (Below w.heap.size w w1) := HB.out.drew.trans (hb1.mono HB.out.drew.size)
   clear hb1 hc hf
   go_wp2
   go_roundw
   case rel => exact ⟨k + 1, by omega, by go_num, HB1.out⟩
   case measure => simp [intOf]; omega
  ·go_wp2
   go_ret
   exact ⟨rfl, HB.out⟩
set_option maxRecDepth 100000 in
set_option maxHeartbeats 400000 in
theorem eqSymSS_nil (a a' : Option Addr) (c c' : Nat) (w : World) : Calls Tryz.prog 46 #[.slice a 0 c, .slice a' 0 c'] w fun e w' => e = .returned (.bool true) ∧ Below w.heap.size w w' := by
 go_enter Tryz.func46, Tryz.ntmps46
 go_wp2
 go_loopw [5] (fun i w' => i = .int .i64 0 ∧ w' = w) (fun i _ => 0)
 case atStart => exact ⟨rfl, rfl⟩
 case round =>
  obtain ⟨rfl, rfl⟩ := hrel
  go_wp2
  go_ret
  exact ⟨rfl, Below.refl _ _⟩
theorem eqSymSS_ok (ls : List (List Y)) (a a' : Option Addr) (c c' : Nat) (w : World) (hn : ls.length ≤ maxLen) (hr : ∀ (i : Nat) (l : List Y), ls[i]? = some l → l.length ≤ maxLen) (hl : BndsAt w a ls) (hl' : BndsAt w a' ls) :
  Calls Tryz.prog 46 #[.slice a ls.length c, .slice a' ls.length c'] w fun e w' => e = .returned (.bool true) ∧ Below w.heap.size w w' := by
 rcases hl with rfl | ⟨b, o, rfl, hl⟩
 ·exact eqSymSS_nil a a' c c' w
 ·rcases hl' with rfl | ⟨b', o', rfl, hl'⟩
  ·exact eqSymSS_nil _ a' c c' w
  ·exact eqSymSS_of ls b o c b' o' c' w hn hr hl hl'

end Go.Proofs.YtihpajiololfoaaGreat
namespace Go.Proofs.YtihpajiololfoaaGreat
open Go.RowKit

structure Small (S : SG) : Prop where
 b : S.B.length ≤ 1048576
 t : tot S.B ≤ 1048576
 v : S.V.length ≤ 1048576
 m : S.M.length ≤ 1048576
theorem Small.row {S : SG} (h : Small S) (i : Nat) (l : List Y) (hl : S.B[i]? = some l) : l.length ≤ 1048576 := Nat.le_trans (tot_get hl) h.t
set_option maxRecDepth 100000 in
set_option maxHeartbeats 1600000 in
theorem eqSeg_same (S : SG) (A A' : SAd) (w : World) (hs : Small S) (hl : SegAt w A S) (hl' : SegAt w A' S) :
  Calls Tryz.prog 14 #[.agg #[.slice A.a0 S.B.length A.c0, .slice A.a1 S.V.length A.c1, .slice A.a2 S.M.length A.c2], .agg #[.slice A'.a0 S.B.length A'.c0, .slice A'.a1 S.V.length A'.c1, .slice A'.a2 S.M.length A'.c2]] w fun e w' => e = .returned (.bool true) ∧ Below w.heap.size w w' := by
 have HS := mkHid hs
 have HL := mkHid hl
 have HL' := mkHid hl'
 clear hs hl hl'
 obtain ⟨w0, hw0⟩ : ∃ x : World, (w.alloc (.cells #[.slice A.a0 S.B.length A.c0, .slice A.a1 S.V.length A.c1, .slice A.a2 S.M.length A.c2] 35)).alloc (.cells #[.slice A'.a0 S.B.length A'.c0, .slice A'.a1 S.V.length A'.c1, .slice A'.a2 S.M.length A'.c2] 35) = x := ⟨_, rfl⟩
 obtain ⟨X, hX⟩ : ∃ x, w.heap.size = x := ⟨_, rfl⟩
 have HB : Hid (Below X w w0) := mkHid (by rw [← hw0, ← hX]; exact bl_alloc (bl_alloc (Below.refl _ _) _) _)
 have P0 : Hid (G3 w0 X (.slice A.a0 S.B.length A.c0) (.slice A.a1 S.V.length A.c1) (.slice A.a2 S.M.length A.c2)) := mkHid (by rw [← hw0, ← hX]; constructor <;> simp [go_sem])
 have P1 : Hid (G3 w0 (X + 1) (.slice A'.a0 S.B.length A'.c0) (.slice A'.a1 S.V.length A'.c1) (.slice A'.a2 S.M.length A'.c2)) := mkHid (by rw [← hw0, ← hX]; constructor <;> simp [go_sem])
 have HX := mkHid hX
 have L0 : Hid (SegAt w0 A S) := mkHid (HL.out.below (by rw [hX]; exact HB.out))
 have L1 : Hid (SegAt w0 A' S) := mkHid (HL'.out.below (by rw [hX]; exact HB.out))
 obtain ⟨q0, q1, q2, _, _, _⟩ := P0.out
 obtain ⟨p0, p1, p2, _, _, _⟩ := P1.out
 clear HL HL'
 go_enter Tryz.func14, Tryz.ntmps14
 go_wp2_with fail
 clear hw0 hX q0 q1 q2 p0 p1 p2
 refine (eqSymSS_ok S.B A.a0 A'.a0 A.c0 A'.c0 _ (by have := HS.out.b; unfold maxLen; omega) (fun i l hl => by have := HS.out.row i l hl; unfold maxLen; omega) L0.out.b L1.out.b).mono ?_
 rintro e w1 ⟨rfl, hb⟩
 have R0 := mkHid (P0.out.below hb)
 have R1 := mkHid (P1.out.below hb)
 have M0 := mkHid (L0.out.below hb)
 have M1 := mkHid (L1.out.below hb)
 have HB1 : Hid (Below X w w1) := mkHid (HB.out.trans (hb.mono (by have := HX.out; have := HB.out.size; omega)))
 have HS1 : Hid (X ≤ w1.heap.size) := mkHid (by have := HX.out; have := HB1.out.size; omega)
 clear hb P0 P1 L0 L1 HB
 obtain ⟨q0, q1, q2, _, _, _⟩ := R0.out
 obtain ⟨p0, p1, p2, _, _, _⟩ := R1.out
 go_wp2_with fail
 clear q0 q1 q2 p0 p1 p2
 refine (eqValS_same S.V A.a1 A'.a1 A.c1 A'.c1 _ (by have := HS.out.v; unfold maxLen; omega) M0.out.v M1.out.v).mono ?_
 rintro e w2 ⟨rfl, hb⟩
 have P0 := mkHid (R0.out.below hb)
 have P1 := mkHid (R1.out.below hb)
 have L0 := mkHid (M0.out.below hb)
 have L1 := mkHid (M1.out.below hb)
 have HB2 : Hid (Below X w w2) := mkHid (HB1.out.trans (hb.mono HS1.out))
 have HS2 : Hid (X ≤ w2.heap.size) := mkHid (by have := HX.out; have := HB2.out.size; omega)
 clear hb R0 R1 M0 M1 HB1
 obtain ⟨q0, q1, q2, _, _, _⟩ := P0.out
 obtain ⟨p0, p1, p2, _, _, _⟩ := P1.out
 go_wp2_with fail
 clear q0 q1 q2 p0 p1 p2
 refine (eqBoolS_same S.M A.a2 A'.a2 A.c2 A'.c2 _ (by have := HS.out.m; unfold maxLen; omega) L0.out.m L1.out.m).mono ?_
 rintro e w3 ⟨rfl, hb⟩
 have HB3 : Hid (Below X w w3) := mkHid (HB2.out.trans (hb.mono HS2.out))
 clear hb
 go_wp2
 go_ret
 exact ⟨rfl, by rw [HX.out]; exact HB3.out⟩
theorem Outs.alloc {lo hi : Nat} {a b : World} (h : Outs lo hi a b) (o : Obj) : Outs lo hi a (b.alloc o) := h.step ((Below.refl _ _).alloc (Nat.le_refl _) _)
end Go.Proofs.YtihpajiololfoaaGreat
namespace Go.Proofs.YtihpajiololfoaaGreat
open Go.RowKit

structure RowS (n : Int) (B : List (List Y)) (i : Nat) (b : List Y) : Prop where
 ne : b ≠ []
 sym : ∀ p, p ∈ b → symP n p
 asc : b.Pairwise LtY
 inn : ∀ p, p ∈ b → inY B p = some i
theorem OkS.row {n l : Int} {B : List (List Y)} {V : List VV} {M : List Bool} (h : OkS n l B V M) {i : Nat} {b : List Y} (hb : B[i]? = some b) : RowS n B i b :=
 have hm := List.mem_of_getElem? hb
 ⟨(h.rows b hm).ne, (h.rows b hm).sym, (h.rows b hm).asc, fun _ hp => in_of_nodup h.nodup hb hp⟩
theorem last_get {B : List (List Y)} (h : 1 ≤ B.length) : ∃ b, B[B.length - 1]? = some b ∧ B.getLastD [] = b := by
 refine ⟨B[B.length - 1], List.getElem?_eq_getElem (by omega), ?_⟩
 have hne : B ≠ [] := by intro e; rw [e] at h; simp at h
 rw [List.getLastD_eq_getLast?, List.getLast?_eq_getElem?, List.getElem?_eq_getElem (by omega)]; rfl
theorem head_get {B : List (List Y)} (h : 1 ≤ B.length) : ∃ b, B[0]? = some b ∧ B.headD [] = b := by
 cases B with
 | nil => simp at h
 | cons b B => exact ⟨b, rfl, rfl⟩
theorem ok_ends {n l : Int} {B : List (List Y)} {V : List VV} {M : List Bool} (h : OkS n l B V M) : toI (inY B (0, 0)) = 0 ∧ toI (inY B (l, 0)) = (B.length : Int) - 1 := by
 obtain ⟨b, h1, h2⟩ := head_get h.k1
 obtain ⟨c, h3, h4⟩ := last_get h.k1
 have hf := h.first
 have hl := h.last
 rw [h2] at hf
 rw [h4] at hl
 have k1 := h.k1
 rw [in_of_nodup h.nodup h1 hf, in_of_nodup h.nodup h3 hl]
 exact ⟨rfl, by show ((B.length - 1 : Nat) : Int) = _; omega⟩
theorem ok_of {n l : Int} {B : List (List Y)} {V : List VV} {M : List Bool} (h1 : lenP n l) (h2 : 1 ≤ B.length) (h3 : B.length ≤ 16) (h4 : V.length + 1 = B.length) (h5 : M.length + 1 = B.length) (h6 : B.flatten.length ≤ 40)
  (hr : ∀ (i : Nat) (b : List Y), B[i]? = some b → RowS n B i b) (hv : ∀ v, v ∈ V → okB v.1 v.2.1 = true) (e0 : toI (inY B (0, 0)) = 0) (e1 : toI (inY B (l, 0)) = (B.length : Int) - 1) : OkS n l B V M := by
 have rows : ∀ b, b ∈ B → RowP n b := fun b hb => by
  obtain ⟨i, hi, rfl⟩ := List.getElem_of_mem hb
  have := hr i _ (List.getElem?_eq_getElem hi)
  exact ⟨this.ne, this.sym, this.asc⟩
 refine ⟨h1, h2, h3, h4, h5, h6, rows, nodup_of_in (fun b hb => (rows b hb).asc) fun i b hb p hp => (hr i b hb).inn p hp, hv, ?_, ?_⟩
 ·obtain ⟨b, g1, g2⟩ := head_get h2
  obtain ⟨hi, hm, _⟩ := inY_some.1 (toI_eq.1 (show toI (inY B (0, 0)) = ((0 : Nat) : Int) from e0))
  rw [List.getElem?_eq_getElem hi] at g1
  rw [g2, ← Option.some.inj g1]
  exact hm
 ·obtain ⟨b, g1, g2⟩ := last_get h2
  obtain ⟨hi, hm, _⟩ := inY_some.1 (toI_eq.1 (show toI (inY B (l, 0)) = ((B.length - 1 : Nat) : Int) by rw [e1]; omega))
  rw [List.getElem?_eq_getElem hi] at g1
  rw [g2, ← Option.some.inj g1]
  exact hm
/-- From one to the next it ascends: so it does. -/
theorem asc_steps : ∀ {b : List Y}, (∀ (q : Nat) (x y : Y), b[q]? = some x → b[q + 1]? = some y → LtY x y) → b.Pairwise LtY
 | [], _ => List.Pairwise.nil
 | [a], _ => by simp
 | a :: b :: l, h => by
  have ih : (b :: l).Pairwise LtY := asc_steps fun q x y hx hy => h (q + 1) x y (by simpa using hx) (by simpa using hy)
  refine List.pairwise_cons.2 ⟨fun p hp => ?_, ih⟩
  have hab := h 0 a b rfl rfl
  rcases List.mem_cons.1 hp with rfl | hp
  ·exact hab
  ·exact hab.trans ((List.pairwise_cons.1 ih).1 p hp)
theorem asc_at {b : List Y} (h : b.Pairwise LtY) {q : Nat} {x y : Y} (hx : b[q]? = some x) (hy : b[q + 1]? = some y) : LtY x y := by
 obtain ⟨hi, rfl⟩ := List.getElem?_eq_some_iff.1 hx
 obtain ⟨hj, rfl⟩ := List.getElem?_eq_some_iff.1 hy
 rw [List.pairwise_iff_getElem] at h
 exact h q (q + 1) hi hj (by omega)
theorem lessB_iff (x y : Y) : lessB x.1 x.2 y.1 y.2 = true ↔ LtY x y := by unfold lessB LtY; simp
theorem symB_iff (n : Int) (x : Y) : symOkB n x.1 x.2 = true ↔ symP n x := by unfold symOkB btw symP; simp [and_assoc]
/-- What is known of a row behind its first j terms. -/
structure Part (n : Int) (B : List (List Y)) (i : Nat) (b : List Y) (j : Nat) : Prop where
 each : ∀ (q : Nat) (x : Y), q < j → b[q]? = some x → symP n x ∧ inY B x = some i
 step : ∀ (q : Nat) (x y : Y), q + 1 < j → b[q]? = some x → b[q + 1]? = some y → LtY x y
theorem Part.zero (n : Int) (B : List (List Y)) (i : Nat) (b : List Y) : Part n B i b 0 := ⟨fun q x h => by omega, fun q x y h => by omega⟩
theorem Part.next {n : Int} {B : List (List Y)} {i : Nat} {b : List Y} {j : Nat} (h : Part n B i b j) {x : Y} (hx : b[j]? = some x) (h1 : symP n x) (h2 : inY B x = some i) (h3 : ∀ q y, j = q + 1 → b[q]? = some y → LtY y x) : Part n B i b (j + 1) :=
 ⟨fun q y hq hy => by
  rcases (by omega : q < j ∨ q = j) with h' | rfl
  ·exact h.each q y h' hy
  ·rw [hx] at hy; cases hy; exact ⟨h1, h2⟩, fun q y z hq hy hz => by
  rcases (by omega : q + 1 < j ∨ j = q + 1) with h' | h'
  ·exact h.step q y z h' hy hz
  ·subst h'; rw [hx] at hz; cases hz; exact h3 q y rfl hy⟩
theorem Part.next2 {n : Int} {B : List (List Y)} {i : Nat} {b : List Y} {j jm : Nat} (h : Part n B i b j) {x y : Y} (hx : b[j]? = some x) (h1 : symP n x) (h2 : inY B x = some i) (hj : j = jm + 1) (hy : b[jm]? = some y) (hl : LtY y x) : Part n B i b (j + 1) :=
 h.next hx h1 h2 fun q y' hq hy' => by
  obtain rfl : q = jm := by omega
  rw [hy] at hy'
  cases hy'
  exact hl
theorem Part.all {n : Int} {B : List (List Y)} {i : Nat} {b : List Y} (h : Part n B i b b.length) (hne : b ≠ []) : RowS n B i b :=
 ⟨hne, fun p hp => by obtain ⟨q, hq, rfl⟩ := List.getElem_of_mem hp; exact (h.each q _ hq (List.getElem?_eq_getElem hq)).1, asc_steps fun q x y hx hy => h.step q x y (List.getElem?_eq_some_iff.1 hy).1 hx hy, fun p hp => by obtain ⟨q, hq, rfl⟩ := List.getElem_of_mem hp; exact (h.each q _ hq (List.getElem?_eq_getElem hq)).2⟩
/-- A call tells whether something is so. -/
def Tells (w w' : World) (e : Ending) (p : Prop) : Prop := Below w.heap.size w w' ∧ ∃ r : Bool, e = .returned (.bool r) ∧ (r = true ↔ p)
theorem Tells.no {w w' : World} {p : Prop} (hb : Below w.heap.size w w') (h : ¬ p) : Tells w w' (.returned (.bool false)) p := ⟨hb, false, rfl, fun e => (by cases e), fun e => absurd e h⟩
theorem Tells.yes {w w' : World} {p : Prop} (hb : Below w.heap.size w w') (h : p) : Tells w w' (.returned (.bool true)) p := ⟨hb, true, rfl, fun _ => h, fun _ => rfl⟩
end Go.Proofs.YtihpajiololfoaaGreat
namespace Go.Proofs.YtihpajiololfoaaGreat
open Go.RowKit

theorem Own.one {w : World} {ao : Option Addr} {cap : Nat} {g : Nat} {l : List Y} (hg : w.cell? ⟨g, 0, none⟩ = some (.slice ao l.length cap)) (h : At eY w ao l) : BndsAt w (some ⟨g, 0, none⟩) [l] :=
 .inr ⟨g, 0, rfl, fun i l' hl => by
  match i, hl with
  | 0, hl => simp at hl; subst hl; exact ⟨ao, cap, hg, h⟩⟩
theorem field80 (a : Option Addr) (n c : Nat) (w : World) : (Instr.field 127 (.agg #[.slice a n c, .func (.func 132) #[] #[]]) 0).run Tryz.prog w = .ok (.slice a n c) w := by kernel_rfl
set_option maxRecDepth 100000 in
set_option maxHeartbeats 3200000 in
theorem isBound_any (n : Int) (l : List Y) (a : Option Addr) (c : Nat) (w : World) (hn : l.length ≤ 1048576) (hl : At eY w a l) :
  Calls Tryz.prog 144 #[.int .i64 n, .slice a l.length c] w fun e w' => Tells w w' e (RowP n l) := by
 have hFd := field80
 have HL := mkHid hl
 clear hl
 go_enter Tryz.func144, Tryz.ntmps144
 go_wp2
 go_loopg [9] l.length (fun g s9 wr => ∃ (k : Nat), k ≤ l.length ∧ s9 = .int .i64 k ∧ l.length - k ≤ g ∧ (∀ q x, q < k → l[q]? = some x → symP n x) ∧ Below w.heap.size w wr)
 case atStart => exact ⟨0, Nat.zero_le _, rfl, by omega, fun q x h => by omega, Below.refl _ _⟩
 case round =>
  obtain ⟨k, hk, rfl, hgk, hsy, hbel⟩ := hrel
  have HS := mkHid hsy
  have HB := mkHid hbel
  clear hsy
  by_cases hlt : k < l.length
  ·obtain ⟨x, hx⟩ : ∃ x, l[k]? = some x := ⟨_, List.getElem?_eq_getElem hlt⟩
   obtain ⟨b, off, rfl, _, hq⟩ := (HL.out.below hbel).cons (by omega)
   obtain ⟨c0, c1⟩ := get_y hq hx
   have HX := mkHid hx
   clear hq hbel hx
   have i0 : (0 : Int) ≤ (k : Int) := by omega
   have i1 : (k : Int) < (l.length : Int) := by omega
   go_wp2_with fail
   refine (iSymOk_any n x.1 x.2 _).mono ?_
   rintro e w1 ⟨rfl, hb⟩
   have HB1 := mkHid (below_step (bl_alloc HB.out (.cells #[.int .i64 x.1, .int .i64 x.2] 49)) hb)
   clear hb c0 c1
   cases hso : symOkB n x.1 x.2
   ·have HNO : Hid (¬ RowP n l) := mkHid fun h => Bool.false_ne_true (hso.symm.trans ((symB_iff n x).2 (h.sym x (List.mem_of_getElem? HX.out))))
    go_wp2
    go_ret
    exact Tells.no HB1.out HNO.out
   ·have HNX : Hid (∀ q x, q < k + 1 → l[q]? = some x → symP n x) := mkHid fun q y hq hy => (by omega : q < k ∨ q = k).elim (fun h => HS.out q y h hy) (fun h => by subst h; rw [HX.out] at hy; cases hy; exact (symB_iff n x).1 hso)
    go_wp2
    go_roundg (l.length - (k + 1))
    case measure => omega
    case rel => exact ⟨k + 1, by omega, by go_num, Nat.le_refl _, HNX.out, HB1.out⟩
  ·have HSA : Hid (∀ p, p ∈ l → symP n p) := mkHid fun p hp => by obtain ⟨q, hq, rfl⟩ := List.getElem_of_mem hp; exact HS.out q _ (by omega) (List.getElem?_eq_getElem hq)
   have i1 : ¬ (k : Int) < (l.length : Int) := by omega
   clear hbel
   by_cases hne : l.length = 0
   ·have HNO : Hid (¬ RowP n l) := mkHid fun h => h.ne (List.length_eq_zero_iff.1 hne)
    have hz : ¬ (0 : Int) < (l.length : Int) := by omega
    have hz2 : decide (0 < l.length) = false := decide_eq_false (by omega)
    go_wp2
    go_ret
    exact Tells.no HB.out HNO.out
   ·have hz : (0 : Int) < (l.length : Int) := by omega
    have hz2 : decide (0 < l.length) = true := decide_eq_true (by omega)
    obtain ⟨wa, hwa⟩ : ∃ x : World, wr.alloc (.cells #[.slice a l.length c] 113) = x := ⟨_, rfl⟩
    obtain ⟨R, hR⟩ : ∃ x, wr.heap.size = x := ⟨_, rfl⟩
    have BA : Hid (Below wr.heap.size wr wa) := mkHid (by rw [← hwa]; exact bl_alloc (Below.refl _ _) _)
    have CA : Hid (wa.cell? ⟨R, 0, none⟩ = some (.slice a l.length c)) := mkHid (by rw [← hwa, ← hR]; simp [go_sem])
    have HLA := mkHid (HL.out.below (below_step HB.out BA.out))
    go_wp2_with fail
    clear hwa hR
    refine (termsOf_any [l] (some ⟨R, 0, none⟩) 1 _ (by simp) (by simpa using hn) (Own.one CA.out HLA.out)).mono ?_
    rintro e w1 ⟨hb, m, ao, cap, rfl, hset, ho⟩
    have HSE : Hid (IsSet m l) := mkHid (by simpa using hset)
    have HO := mkHid ho
    have HB1 := mkHid (below_step (below_step HB.out BA.out) hb)
    have HLB := mkHid (HLA.out.below hb)
    clear hset ho hb
    go_wp2_with fail
    refine (equal_any l m a ao c cap _ (by unfold maxLen; omega) HLB.out HO.out.at).mono ?_
    rintro e w2 ⟨hb, r, rfl, hr⟩
    have HB2 := mkHid (below_step HB1.out hb)
    have HRR := mkHid hr
    clear hb hr
    cases hrb : r
    ·have HNO : Hid (¬ RowP n l) := mkHid fun h => by have := HRR.out.2 ((HSE.out.same).2 h.asc); rw [hrb] at this; cases this
     subst hrb
     go_wp2
     go_ret
     exact Tells.no HB2.out HNO.out
    ·have HYES : Hid (RowP n l) := mkHid ⟨fun e => hne (by rw [e]; rfl), HSA.out, (HSE.out.same).1 (HRR.out.1 hrb)⟩
     subst hrb
     go_wp2
     go_ret
     exact Tells.yes HB2.out HYES.out
structure ValsP (V : List VV) : Prop where
 ok : ∀ v, v ∈ V → okB v.1 v.2.1 = true
structure BndP (n : Int) (B : List (List Y)) : Prop where
 rows : ∀ b, b ∈ B → RowP n b
 nodup : B.flatten.Nodup
set_option maxRecDepth 100000 in
set_option maxHeartbeats 3200000 in
theorem areBounds_any (n : Int) (B : List (List Y)) (a : Option Addr) (c : Nat) (w : World) (hn : B.length ≤ 1048576) (ht : B.flatten.length ≤ 1048576) (hl : BndsAt w a B) :
  Calls Tryz.prog 119 #[.int .i64 n, .slice a B.length c] w fun e w' => Tells w w' e (BndP n B) := by
 have hFd := field80
 have HL := mkHid hl
 clear hl
 go_enter Tryz.func119, Tryz.ntmps119
 go_wp2
 go_loopg [5, 10, 7] B.length (fun g s5 s10 s7 wr => ∃ (k : Nat), k ≤ B.length ∧ s10 = .int .i64 k ∧ s5 = .int .i64 ((B.take k).flatten.length : Nat) ∧ B.length - k ≤ g ∧ (∀ q b, q < k → B[q]? = some b → RowP n b) ∧ Below w.heap.size w wr)
 case atStart => exact ⟨0, Nat.zero_le _, rfl, rfl, by omega, fun q x h => by omega, Below.refl _ _⟩
 case round =>
  obtain ⟨k, hk, rfl, rfl, hgk, hro, hbel⟩ := hrel
  have HS := mkHid hro
  have HB := mkHid hbel
  obtain ⟨tt, htt⟩ : ∃ tt, (B.take k).flatten.length = tt := ⟨_, rfl⟩
  have HTT := mkHid htt
  have hle1 : tt ≤ 1048576 := by have h1 := tot_take B k; omega
  rw [htt]
  clear hro htt
  by_cases hlt : k < B.length
  ·obtain ⟨l, hx⟩ : ∃ x, B[k]? = some x := ⟨_, List.getElem?_eq_getElem hlt⟩
   obtain ⟨b, off, rfl, _, hq⟩ := (HL.out.below hbel).cons (by omega)
   obtain ⟨ao, cp, c0, hat⟩ := hq k l hx
   have HX := mkHid hx
   have HAT := mkHid hat
   have HSU := mkHid (tot_succ hx)
   have hle2 : tt + l.length ≤ 1048576 := by have h1 := tot_take B (k + 1); rw [HSU.out, HTT.out] at h1; omega
   clear hq hbel hx hat
   have i0 : (0 : Int) ≤ (k : Int) := by omega
   have i1 : (k : Int) < (B.length : Int) := by omega
   go_wp2_with fail
   refine (isBound_any n l ao cp _ (by omega) HAT.out).mono ?_
   rintro e w1 ⟨hb, r, rfl, hr⟩
   have HB1 := mkHid (below_step HB.out hb)
   have HRR := mkHid hr
   clear hb hr c0
   cases hrb : r
   ·have HNO : Hid (¬ BndP n B) := mkHid fun h => by have := HRR.out.2 (h.rows l (List.mem_of_getElem? HX.out)); rw [hrb] at this; cases this
    subst hrb
    go_wp2
    go_ret
    exact Tells.no HB1.out HNO.out
   ·have HNX : Hid (∀ q b, q < k + 1 → B[q]? = some b → RowP n b) := mkHid fun q y hq hy => (by omega : q < k ∨ q = k).elim (fun h => HS.out q y h hy) (fun h => by subst h; rw [HX.out] at hy; cases hy; exact HRR.out.1 hrb)
    subst hrb
    go_wp2
    go_roundg (B.length - (k + 1))
    case measure => omega
    case rel => exact ⟨k + 1, by omega, by go_num, by rw [HSU.out, HTT.out]; simp, Nat.le_refl _, HNX.out, HB1.out⟩
  ·have e : k = B.length := by omega
   have HTA : Hid (B.flatten.length = tt) := mkHid (by have h := HTT.out; rw [e, List.take_length] at h; exact h)
   have HRA : Hid (∀ b, b ∈ B → RowP n b) := mkHid fun b hb => by obtain ⟨q, hq, rfl⟩ := List.getElem_of_mem hb; exact HS.out q _ (by omega) (List.getElem?_eq_getElem hq)
   have i1 : ¬ (k : Int) < (B.length : Int) := by omega
   clear e
   go_wp2_with fail
   refine (termsOf_any B a c _ hn ht (HL.out.below HB.out)).mono ?_
   rintro e w1 ⟨hb, m, ao, cap, rfl, hset, _⟩
   have HSE := mkHid hset
   have HB1 := mkHid (below_step HB.out hb)
   clear hset hb hbel
   by_cases heq : m.length = tt
   ·have h1 : ((m.length : Int) == (tt : Int)) = true := beq_iff_eq.2 (by omega)
    have HYES : Hid (BndP n B) := mkHid ⟨HRA.out, (HSE.out.full).1 (by rw [heq, HTA.out])⟩
    clear heq
    go_wp2
    go_ret
    exact Tells.yes HB1.out HYES.out
   ·have h1 : ((m.length : Int) == (tt : Int)) = false := beq_eq_false_iff_ne.2 (by omega)
    have HNO : Hid (¬ BndP n B) := mkHid fun h => heq (by rw [(HSE.out.full).2 h.nodup, HTA.out])
    clear heq
    go_wp2
    go_ret
    exact Tells.no HB1.out HNO.out
set_option maxRecDepth 100000 in
set_option maxHeartbeats 3200000 in
theorem areVals_any (V : List VV) (a : Option Addr) (c : Nat) (w : World) (hn : V.length ≤ 1048576) (hl : At eV w a V) :
  Calls Tryz.prog 121 #[.slice a V.length c] w fun e w' => Tells w w' e (ValsP V) := by
 have HL := mkHid hl
 clear hl
 go_enter Tryz.func121, Tryz.ntmps121
 go_wp2
 go_loopg [7] V.length (fun g s7 wr => ∃ (k : Nat), k ≤ V.length ∧ s7 = .int .i64 k ∧ V.length - k ≤ g ∧ (∀ q (x : VV), q < k → V[q]? = some x → okB x.1 x.2.1 = true) ∧ Below w.heap.size w wr)
 case atStart => exact ⟨0, Nat.zero_le _, rfl, by omega, fun q x h => by omega, Below.refl _ _⟩
 case round =>
  obtain ⟨k, hk, rfl, hgk, hsy, hbel⟩ := hrel
  have HS := mkHid hsy
  have HB := mkHid hbel
  clear hsy
  by_cases hlt : k < V.length
  ·obtain ⟨x, hx⟩ : ∃ x, V[k]? = some x := ⟨_, List.getElem?_eq_getElem hlt⟩
   obtain ⟨b, off, rfl, _, hq⟩ := (HL.out.below hbel).cons (by omega)
   obtain ⟨c0, c1, c2⟩ := get_v hq hx
   have HX := mkHid hx
   clear hq hbel hx
   have i0 : (0 : Int) ≤ (k : Int) := by omega
   have i1 : (k : Int) < (V.length : Int) := by omega
   go_wp2_with fail
   refine (iVok_any x.1 x.2.1 x.2.2 _).mono ?_
   rintro e w1 ⟨rfl, hb⟩
   have HB1 := mkHid (below_step (bl_alloc HB.out (.cells #[.int .i64 x.1, .int .i64 x.2.1, .bool x.2.2] 55)) hb)
   clear hb c0 c1 c2
   cases hso : okB x.1 x.2.1
   ·have HNO : Hid (¬ ValsP V) := mkHid fun h => Bool.false_ne_true (hso.symm.trans (h.ok x (List.mem_of_getElem? HX.out)))
    go_wp2
    go_ret
    exact Tells.no HB1.out HNO.out
   ·have HNX : Hid (∀ q (x : VV), q < k + 1 → V[q]? = some x → okB x.1 x.2.1 = true) := mkHid fun q y hq hy => (by omega : q < k ∨ q = k).elim (fun h => HS.out q y h hy) (fun h => by subst h; rw [HX.out] at hy; cases hy; exact hso)
    go_wp2
    go_roundg (V.length - (k + 1))
    case measure => omega
    case rel => exact ⟨k + 1, by omega, by go_num, Nat.le_refl _, HNX.out, HB1.out⟩
  ·have HSA : Hid (ValsP V) := mkHid ⟨fun p hp => by obtain ⟨q, hq, rfl⟩ := List.getElem_of_mem hp; exact HS.out q _ (by omega) (List.getElem?_eq_getElem hq)⟩
   have i1 : ¬ (k : Int) < (V.length : Int) := by omega
   clear hbel
   go_wp2
   go_ret
   exact Tells.yes HB.out HSA.out
end Go.Proofs.YtihpajiololfoaaGreat
