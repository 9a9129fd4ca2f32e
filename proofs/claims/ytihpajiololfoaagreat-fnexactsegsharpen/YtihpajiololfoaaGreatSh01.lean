/-
  PURE: terms in order, sets of terms, segments as data.
  CONTRACTS of toSym, of comparing (cmp.Compare, cmp.Or), and of both SymOks, both SymLesses.
-/
import Derived.Test.YtihpajiololfoaaGreatSh00
import Derived.Deep.LoopGhost
namespace Go.Proofs.YtihpajiololfoaaGreat

abbrev Y := Int × Int
def LtY (a b : Y) : Prop := a.1 < b.1 ∨ (a.1 = b.1 ∧ a.2 < b.2)
instance (a b : Y) : Decidable (LtY a b) := by unfold LtY; infer_instance
theorem LtY.irrefl (a : Y) : ¬ LtY a a := by unfold LtY; omega
theorem LtY.trans {a b c : Y} (h : LtY a b) (g : LtY b c) : LtY a c := by unfold LtY at *; omega
theorem LtY.asymm {a b : Y} (h : LtY a b) : ¬ LtY b a := fun g => LtY.irrefl a (h.trans g)
theorem LtY.ne {a b : Y} (h : LtY a b) : a ≠ b := fun e => LtY.irrefl a (by rw [← e] at h; exact h)
theorem LtY.tri (a b : Y) : a = b ∨ LtY a b ∨ LtY b a := by
 unfold LtY
 obtain ⟨a1, a2⟩ := a
 obtain ⟨b1, b2⟩ := b
 simp only [Prod.mk.injEq]
 omega
def cmpI (a b : Int) : Int := if a < b then -1 else if b < a then 1 else 0
def cmpY (a b : Y) : Int := if cmpI a.1 b.1 ≠ 0 then cmpI a.1 b.1 else cmpI a.2 b.2
theorem cmpY_lt (a b : Y) : cmpY a b < 0 ↔ LtY a b := by
 unfold cmpY cmpI LtY
 repeat' split
 all_goals omega
theorem cmpY_zero (a b : Y) : cmpY a b = 0 ↔ a = b := by
 obtain ⟨a1, a2⟩ := a
 obtain ⟨b1, b2⟩ := b
 unfold cmpY cmpI
 simp only [Prod.mk.injEq]
 repeat' split
 all_goals omega
/-- A list of terms, ascending, with just these members. -/
structure IsSet (m L : List Y) : Prop where
 asc : m.Pairwise LtY
 mem : ∀ p, p ∈ m ↔ p ∈ L
theorem asc_nodup {m : List Y} (h : m.Pairwise LtY) : m.Nodup := h.imp fun h => h.ne
theorem asc_unique : ∀ {m m' : List Y}, m.Pairwise LtY → m'.Pairwise LtY → (∀ p, p ∈ m ↔ p ∈ m') → m = m'
 | [], [], _, _, _ => rfl
 | [], b :: l', _, _, h => absurd ((h b).2 (by simp)) (by simp)
 | a :: l, [], _, _, h => absurd ((h a).1 (by simp)) (by simp)
 | a :: l, b :: l', ha, hb, h => by
  rw [List.pairwise_cons] at ha hb
  have e : a = b := by
   rcases LtY.tri a b with e | e | e
   ·exact e
   ·rcases List.mem_cons.1 ((h a).1 (by simp)) with e2 | e2
    ·exact e2
    ·exact absurd (e.trans (hb.1 a e2)) (LtY.irrefl a)
   ·rcases List.mem_cons.1 ((h b).2 (by simp)) with e2 | e2
    ·exact e2.symm
    ·exact absurd (e.trans (ha.1 b e2)) (LtY.irrefl b)
  subst e
  congr 1
  refine asc_unique ha.2 hb.2 fun p => ⟨fun hp => ?_, fun hp => ?_⟩
  ·rcases List.mem_cons.1 ((h p).1 (by simp [hp])) with e2 | e2
   ·subst e2
    exact absurd (ha.1 _ hp) (LtY.irrefl _)
   ·exact e2
  ·rcases List.mem_cons.1 ((h p).2 (by simp [hp])) with e2 | e2
   ·subst e2
    exact absurd (hb.1 _ hp) (LtY.irrefl _)
   ·exact e2
theorem IsSet.unique {m m' L : List Y} (h : IsSet m L) (h' : IsSet m' L) : m = m' := asc_unique h.asc h'.asc fun p => (h.mem p).trans (h'.mem p).symm
theorem IsSet.self {L : List Y} (h : L.Pairwise LtY) : IsSet L L := ⟨h, fun _ => Iff.rfl⟩
theorem IsSet.same {m L : List Y} (h : IsSet m L) : L = m ↔ L.Pairwise LtY :=
 ⟨fun e => by rw [e]; exact h.asc, fun a => (h.unique (IsSet.self a)).symm⟩
theorem IsSet.le {m L : List Y} (h : IsSet m L) : m.length ≤ L.length := (asc_nodup h.asc).length_le_of_subset fun p hp => (h.mem p).1 hp
theorem IsSet.full {m L : List Y} (h : IsSet m L) : m.length = L.length ↔ L.Nodup := by
 refine ⟨fun e => ?_, fun nd => ?_⟩
 ·-- the set is as long as the list: nothing stands twice
  refine Classical.byContradiction fun hn => ?_
  have key : ∀ {l : List Y}, ¬ l.Nodup → ∃ l' : List Y, l'.length < l.length ∧ ∀ p, p ∈ l ↔ p ∈ l' := by
   intro l
   induction l with
   | nil => intro h; exact absurd List.nodup_nil h
   | cons a l ih =>
    intro h
    by_cases ha : a ∈ l
    ·exact ⟨l, by simp, fun p => by simp; intro e; subst e; exact ha⟩
    ·have : ¬ l.Nodup := fun g => h (List.nodup_cons.2 ⟨ha, g⟩)
     obtain ⟨l', h1, h2⟩ := ih this
     exact ⟨a :: l', by simp; omega, fun p => by simp [h2 p]⟩
  obtain ⟨l', h1, h2⟩ := key hn
  have h3 := (IsSet.mk h.asc fun p => (h.mem p).trans (h2 p)).le
  omega
 ·exact ((List.perm_ext_iff_of_nodup (asc_nodup h.asc) nd).2 h.mem).length_eq
theorem IsSet.nil : IsSet [] [] := ⟨List.Pairwise.nil, fun _ => Iff.rfl⟩
/-- One more, which the last one is. -/
theorem IsSet.again {m L : List Y} {a : Y} (h : IsSet m L) (hl : a ∈ L) : IsSet m (L ++ [a]) :=
 ⟨h.asc, fun p => by rw [h.mem p]; simp; intro e; subst e; exact hl⟩
/-- One more, beyond all. -/
theorem IsSet.more {m L : List Y} {a : Y} (h : IsSet m L) (hl : ∀ p, p ∈ L → LtY p a) : IsSet (m ++ [a]) (L ++ [a]) :=
 ⟨List.pairwise_append.2 ⟨h.asc, by simp, fun p hp q hq => by simp at hq; subst hq; exact hl p ((h.mem p).1 hp)⟩, fun p => by simp [h.mem p]⟩
/-! Segments as data -/
abbrev VV := Int × Int × Bool
def lenP (size l : Int) : Prop := (2 ≤ size ∧ size ≤ 13) ∧ (1 ≤ l ∧ l ≤ size - 1)
instance (size l : Int) : Decidable (lenP size l) := by unfold lenP; infer_instance
def symP (size : Int) (p : Y) : Prop := (1 ≤ size ∧ size ≤ 13) ∧ (0 ≤ p.1 ∧ p.1 ≤ size - 1) ∧ (-1000 ≤ p.2 ∧ p.2 ≤ 1000)
instance (size : Int) (p : Y) : Decidable (symP size p) := by unfold symP; infer_instance
structure RowP (size : Int) (b : List Y) : Prop where
 ne : b ≠ []
 sym : ∀ p, p ∈ b → symP size p
 asc : b.Pairwise LtY
structure OkS (size l : Int) (B : List (List Y)) (V : List VV) (M : List Bool) : Prop where
 len : lenP size l
 k1 : 1 ≤ B.length
 k2 : B.length ≤ 16
 v : V.length + 1 = B.length
 m : M.length + 1 = B.length
 tot : B.flatten.length ≤ 40
 rows : ∀ b, b ∈ B → RowP size b
 nodup : B.flatten.Nodup
 vals : ∀ v, v ∈ V → okB v.1 v.2.1 = true
 first : ((0, 0) : Y) ∈ B.headD []
 last : ((l, 0) : Y) ∈ B.getLastD []
/-- The first row in which a term stands. -/
def inY (B : List (List Y)) (t : Y) : Option Nat := B.findIdx? fun b => decide (t ∈ b)
def toI : Option Nat → Int
 | some n => n
 | none => -1
theorem inY_some {B : List (List Y)} {t : Y} {i : Nat} : inY B t = some i ↔ ∃ h : i < B.length, t ∈ B[i] ∧ ∀ j (hj : j < i), t ∉ B[j] := by
 unfold inY
 rw [List.findIdx?_eq_some_iff_getElem]
 simp
theorem inY_none {B : List (List Y)} {t : Y} : inY B t = none ↔ ∀ b, b ∈ B → t ∉ b := by
 unfold inY
 rw [List.findIdx?_eq_none_iff]
 simp
theorem toI_eq {o : Option Nat} {i : Nat} : toI o = (i : Int) ↔ o = some i := by
 cases o with
 | none => simp [toI]
 | some n => simp [toI]; omega
/-- All terms stand first where they stand: no two rows have one in common. -/
theorem nodup_of_in {B : List (List Y)} (ha : ∀ b, b ∈ B → b.Pairwise LtY) (h : ∀ (i : Nat) (b : List Y), B[i]? = some b → ∀ p, p ∈ b → inY B p = some i) : B.flatten.Nodup := by
 refine List.pairwise_flatten.2 ⟨fun b hb => asc_nodup (ha b hb), ?_⟩
 rw [List.pairwise_iff_getElem]
 intro i j hi hj hij p hp q hq e
 subst e
 have h1 := h i B[i] (List.getElem?_eq_getElem hi) p hp
 have h2 := h j B[j] (List.getElem?_eq_getElem hj) p hq
 rw [h1] at h2
 simp at h2
 omega
theorem in_of_nodup {B : List (List Y)} (h : B.flatten.Nodup) {i : Nat} {b : List Y} (hb : B[i]? = some b) {p : Y} (hp : p ∈ b) : inY B p = some i := by
 obtain ⟨hi, rfl⟩ := List.getElem?_eq_some_iff.1 hb
 refine inY_some.2 ⟨hi, hp, fun j hj hq => ?_⟩
 have := (List.pairwise_flatten.1 h).2
 rw [List.pairwise_iff_getElem] at this
 exact this j i (by omega) hi hj p hq p hp rfl
theorem tot_take (B : List (List Y)) (i : Nat) : (B.take i).flatten.length ≤ B.flatten.length := by
 have : B.flatten = (B.take i).flatten ++ (B.drop i).flatten := by rw [← List.flatten_append, List.take_append_drop]
 rw [this]; simp
theorem tot_succ {B : List (List Y)} {i : Nat} {b : List Y} (h : B[i]? = some b) : (B.take (i + 1)).flatten.length = (B.take i).flatten.length + b.length := by
 rw [List.take_add_one, h]; simp
end Go.Proofs.YtihpajiololfoaaGreat
namespace Go.Proofs.YtihpajiololfoaaGreat
open Go.RowKit

def symOkB (n v c : Int) : Bool := btw n 1 13 && (btw v 0 (n - 1) && btw c (-1000) 1000)
def lessB (a b c d : Int) : Bool := decide (a < c ∨ a = c ∧ b < d)
theorem Box.new' (w : World) (x y : Int) (T : TypeId) : Box (w.alloc (.cells #[.int .i64 x, .int .i64 y] T)) w.heap.size x y := ⟨by simp [go_sem], by simp [go_sem], by simp [go_sem], by simp [go_sem]⟩
def orI (x y : Int) : Int := if x = 0 then y else x
set_option maxRecDepth 100000 in
set_option maxHeartbeats 400000 in
theorem toSym_any (a b : Int) (w : World) : Calls Tryz.prog 20 #[.agg #[.int .i64 a, .int .i64 b]] w fun e w' => e = .returned (.agg #[.int .i64 a, .int .i64 b]) ∧ Below w.heap.size w w' := by
 go_enter Tryz.func20, Tryz.ntmps20
 go_wp2
 exact bodyPost_ret (v := .agg #[.int .i64 a, .int .i64 b]) (by simp [results, Tryz.results20, go_sem]) rfl ⟨rfl, (((Below.refl _ _).alloc (Nat.le_refl _) _).alloc (by simp) _).alloc (by simp; omega) _⟩
theorem notNaN_any (x : Int) (w : World) : Calls Tryz.prog 165 #[.int .i64 x] w fun e w' => e = .returned (.bool false) ∧ w = w' := by
 go_enter Tryz.func165, Tryz.ntmps165
 have hx : (x != x) = false := by simp
 go_wp2
 go_ret
 exact ⟨rfl, rfl⟩
theorem compare_any (x y : Int) (w : World) : Calls Tryz.prog 157 #[.int .i64 x, .int .i64 y] w fun e w' => e = .returned (.int .i64 (cmpI x y)) ∧ w = w' := by
 unfold cmpI
 by_cases h1 : x < y
 ·rw [if_pos h1]
  go_enter Tryz.func157, Tryz.ntmps157
  go_wp2_with (first | (go_at_call 165; refine (notNaN_any _ _).mono ?_; rintro e w' ⟨rfl, rfl⟩))
  go_ret
  exact ⟨rfl, rfl⟩
 ·rw [if_neg h1]
  by_cases h2 : y < x
  ·rw [if_pos h2]
   go_enter Tryz.func157, Tryz.ntmps157
   go_wp2_with (first | (go_at_call 165; refine (notNaN_any _ _).mono ?_; rintro e w' ⟨rfl, rfl⟩))
   go_ret
   exact ⟨rfl, rfl⟩
  ·rw [if_neg h2]
   go_enter Tryz.func157, Tryz.ntmps157
   go_wp2_with (first | (go_at_call 165; refine (notNaN_any _ _).mono ?_; rintro e w' ⟨rfl, rfl⟩))
   go_ret
   exact ⟨rfl, rfl⟩
set_option maxHeartbeats 800000 in
theorem or2_any (x y : Int) (R c : Nat) (w : World) (h0 : w.cell? ⟨R, 0, none⟩ = some (.int .i64 x)) (h1 : w.cell? ⟨R, 1, none⟩ = some (.int .i64 y)) : Calls Tryz.prog 156 #[.slice (some ⟨R, 0, none⟩) 2 c] w fun e w' => e = .returned (.int .i64 (orI x y)) ∧ w = w' := by
 obtain ⟨r, hr⟩ : ∃ r, orI x y = r := ⟨_, rfl⟩
 have HR := mkHid hr
 rw [hr]
 clear hr
 go_enter Tryz.func156, Tryz.ntmps156
 go_wp2_with fail
 go_loopg [8, 5] 2 (fun g s8 s5 wr => ∃ u : Nat, u + g = 2 ∧ s8 = .int .i64 u ∧ wr = w ∧ (1 ≤ u → x = 0) ∧ (2 ≤ u → y = 0))
 case atStart => exact ⟨0, rfl, rfl, rfl, fun h => by omega, fun h => by omega⟩
 case round =>
  obtain ⟨u, hu, rfl, rfl, hx, hy⟩ := hrel
  have HX := mkHid hx
  have HY := mkHid hy
  clear hx hy
  match gk, u, hu with
  | 0, 2, _ =>
   have e : Hid (0 = r) := mkHid (by rw [← HR.out]; unfold orI; rw [if_pos (HX.out (by omega))]; exact (HY.out (by omega)).symm)
   go_wp2
   go_ret
   exact ⟨ret_int e.out, rfl⟩
  | 1, 1, _ =>
   have e : Hid (y = r) := mkHid (by rw [← HR.out]; unfold orI; rw [if_pos (HX.out (by omega))])
   by_cases hy : y = 0
   ·subst hy
    go_wp2
    go_roundg 0
    case measure => omega
    case rel => exact ⟨2, by omega, by go_num, rfl, fun _ => HX.out (by omega), fun _ => by trivial⟩
   ·have hb : (y != 0) = true := by simp [hy]
    go_wp2
    go_ret
    exact ⟨ret_int e.out, rfl⟩
  | 2, 0, _ =>
   by_cases hx : x = 0
   ·subst hx
    go_wp2
    go_roundg 1
    case measure => omega
    case rel => exact ⟨1, by omega, by go_num, rfl, fun _ => by trivial, fun h => by omega⟩
   ·have hb : (x != 0) = true := by simp [hx]
    have e : Hid (x = r) := mkHid (by rw [← HR.out]; unfold orI; rw [if_neg hx])
    go_wp2
    go_ret
    exact ⟨ret_int e.out, rfl⟩
set_option maxRecDepth 100000 in
set_option maxHeartbeats 1600000 in
theorem compareSyms_any (a b c d : Int) (w : World) : Calls Tryz.prog 132 #[.agg #[.int .i64 a, .int .i64 b], .agg #[.int .i64 c, .int .i64 d]] w fun e w' => e = .returned (.int .i64 (orI (cmpI a c) (cmpI b d))) ∧ Below w.heap.size w w' ∧ w.drawn ≤ w'.drawn := by
 have B0 := mkHid (((Below.refl w.heap.size w).alloc (Nat.le_refl _) (.cells #[.int .i64 a, .int .i64 b] 49)).alloc (by simp) (.cells #[.int .i64 c, .int .i64 d] 49))
 have P0 : Hid (Box ((w.alloc (.cells #[.int .i64 a, .int .i64 b] 49)).alloc (.cells #[.int .i64 c, .int .i64 d] 49)) w.heap.size a b) := mkHid ((Box.new' w a b 49).below ((Below.refl _ _).alloc (Nat.le_refl _) _))
 have Q0 : Hid (Box ((w.alloc (.cells #[.int .i64 a, .int .i64 b] 49)).alloc (.cells #[.int .i64 c, .int .i64 d] 49)) (w.heap.size + 1) c d) := mkHid (by have := Box.new' (w.alloc (.cells #[.int .i64 a, .int .i64 b] 49)) c d 49; simpa using this)
 obtain ⟨w1, hw1⟩ : ∃ w1, (w.alloc (.cells #[.int .i64 a, .int .i64 b] 49)).alloc (.cells #[.int .i64 c, .int .i64 d] 49) = w1 := ⟨_, rfl⟩
 rw [hw1] at B0 P0 Q0
 have D0 : Hid (w.drawn ≤ w1.drawn) := mkHid (by rw [← hw1]; exact Nat.le_refl _)
 have HW := mkHid hw1
 have hBox : ∀ v, Below w1.heap.size w1 v → Box v w.heap.size a b ∧ Box v (w.heap.size + 1) c d := fun v h => ⟨P0.out.below h, Q0.out.below h⟩
 clear hw1
 go_enter Tryz.func132, Tryz.ntmps132
 go_wp2_with fail
 rw [HW.out]
 refine wp_region_inv2 (fun zA0 L zA v => ∃ (zB : Nat → Bool) (zS : Nat → Value) (R : Nat), L = #[zB 0, zB 1, zB 2, zB 3, zB 4, zB 5, zB 6, zB 7, zB 8, zB 9, zB 10, zB 11, zB 12] ∧ zA = puts zA0 [(5, zS 5), (6, zS 6), (7, zS 7), (8, zS 8), (9, zS 9), (10, zS 10), (11, zS 11), (12, zS 12), (13, zS 13), (14, zS 14), (15, zS 15), (16, zS 16), (4, zS 4)] ∧ ((zB 0 = true → zS 5 = .pointer (some ⟨w.heap.size, 0, none⟩)) ∧ (zB 1 = true → zS 6 = .int .i64 a) ∧ (zB 2 = true → zS 7 = .pointer (some ⟨w.heap.size + 1, 0, none⟩)) ∧ (zB 3 = true → zS 8 = .int .i64 c) ∧ (zB 4 = true → zS 9 = .int .i64 (cmpI a c)) ∧ (zB 5 = true → zS 10 = .pointer (some ⟨w.heap.size, 1, none⟩)) ∧ (zB 6 = true → zS 11 = .int .i64 b) ∧ (zB 7 = true → zS 12 = .pointer (some ⟨w.heap.size + 1, 1, none⟩)) ∧ (zB 8 = true → zS 13 = .int .i64 d) ∧ (zB 9 = true → zS 14 = .int .i64 (cmpI b d)) ∧ (zB 10 = true → zS 15 = .slice (some ⟨R, 0, none⟩) 2 2) ∧ (zB 11 = true → zS 16 = .int .i64 (orI (cmpI a c) (cmpI b d))) ∧ (zB 12 = true → zS 4 = .int .i64 (orI (cmpI a c) (cmpI b d)))) ∧ (Below w1.heap.size w1 v ∧ w1.drawn ≤ v.drawn) ∧ ((zB 10) = true → v.cell? ⟨R, 0, none⟩ = some (.int .i64 (cmpI a c)) ∧ v.cell? ⟨R, 1, none⟩ = some (.int .i64 (cmpI b d)))) (by kernel_rfl) ?_ ?_ ?_
 ·exact ⟨fun _ => false, fun zd => if zd = 4 then .int .i64 0 else undef, 0, rfl, by kernel_rfl, ⟨fun e => ft e, fun e => ft e, fun e => ft e, fun e => ft e, fun e => ft e, fun e => ft e, fun e => ft e, fun e => ft e, fun e => ft e, fun e => ft e, fun e => ft e, fun e => ft e, fun e => ft e⟩, ⟨⟨(Below.refl _ _).drew, Nat.le_succ _⟩, fun e => ft e⟩⟩
 ·refine StepsI.cons rfl ?_ ?_
  ·rintro L zA v ⟨zB, zS, R, rfl, rfl, hF, hW⟩ hL hm K hK
   have hb0 : zB 0 = false := by simpa using hL
   clear hL hm
   simp only [pE]
   go_simp
   exact hK.out _ _ ⟨fun zj => if zj = 0 then true else zB zj, fun zd => if zd = 5 then .pointer (some ⟨w.heap.size, 0, none⟩) else zS zd, R, rfl, by kernel_rfl, ⟨fun _ => rfl, hF.2.1, hF.2.2.1, hF.2.2.2.1, hF.2.2.2.2.1, hF.2.2.2.2.2.1, hF.2.2.2.2.2.2.1, hF.2.2.2.2.2.2.2.1, hF.2.2.2.2.2.2.2.2.1, hF.2.2.2.2.2.2.2.2.2.1, hF.2.2.2.2.2.2.2.2.2.2.1, hF.2.2.2.2.2.2.2.2.2.2.2.1, hF.2.2.2.2.2.2.2.2.2.2.2.2⟩, hW⟩
  refine StepsI.cons rfl ?_ ?_
  ·rintro L zA v ⟨zB, zS, R, rfl, rfl, hF, hW⟩ hL hm K hK
   have hb1 : zB 1 = false := by simpa using hL
   have hb0 : zB 0 = true := mt 0 hm (by kernel_rfl)
   have e0 : zS 5 = .pointer (some ⟨w.heap.size, 0, none⟩) := hF.1 hb0
   clear hL hm
   simp only [pE]
   simp only [e0]
   obtain ⟨⟨q0, q1, q2, q3⟩, p0, p1, p2, p3⟩ := hBox _ hW.1.1
   go_simp
   exact hK.out _ _ ⟨fun zj => if zj = 0 then true else if zj = 1 then true else zB zj, fun zd => if zd = 6 then .int .i64 a else if zd = 5 then .pointer (some ⟨w.heap.size, 0, none⟩) else zS zd, R, by simp [hb0], by kernel_rfl, ⟨fun _ => rfl, fun _ => rfl, hF.2.2.1, hF.2.2.2.1, hF.2.2.2.2.1, hF.2.2.2.2.2.1, hF.2.2.2.2.2.2.1, hF.2.2.2.2.2.2.2.1, hF.2.2.2.2.2.2.2.2.1, hF.2.2.2.2.2.2.2.2.2.1, hF.2.2.2.2.2.2.2.2.2.2.1, hF.2.2.2.2.2.2.2.2.2.2.2.1, hF.2.2.2.2.2.2.2.2.2.2.2.2⟩, hW⟩
  refine StepsI.cons rfl ?_ ?_
  ·rintro L zA v ⟨zB, zS, R, rfl, rfl, hF, hW⟩ hL hm K hK
   have hb2 : zB 2 = false := by simpa using hL
   clear hL hm
   simp only [pE]
   go_simp
   exact hK.out _ _ ⟨fun zj => if zj = 2 then true else zB zj, fun zd => if zd = 7 then .pointer (some ⟨w.heap.size + 1, 0, none⟩) else zS zd, R, rfl, by kernel_rfl, ⟨hF.1, hF.2.1, fun _ => rfl, hF.2.2.2.1, hF.2.2.2.2.1, hF.2.2.2.2.2.1, hF.2.2.2.2.2.2.1, hF.2.2.2.2.2.2.2.1, hF.2.2.2.2.2.2.2.2.1, hF.2.2.2.2.2.2.2.2.2.1, hF.2.2.2.2.2.2.2.2.2.2.1, hF.2.2.2.2.2.2.2.2.2.2.2.1, hF.2.2.2.2.2.2.2.2.2.2.2.2⟩, hW⟩
  refine StepsI.cons rfl ?_ ?_
  ·rintro L zA v ⟨zB, zS, R, rfl, rfl, hF, hW⟩ hL hm K hK
   have hb3 : zB 3 = false := by simpa using hL
   have hb2 : zB 2 = true := mt 2 hm (by kernel_rfl)
   have e2 : zS 7 = .pointer (some ⟨w.heap.size + 1, 0, none⟩) := hF.2.2.1 hb2
   clear hL hm
   simp only [pE]
   simp only [e2]
   obtain ⟨⟨q0, q1, q2, q3⟩, p0, p1, p2, p3⟩ := hBox _ hW.1.1
   go_simp
   exact hK.out _ _ ⟨fun zj => if zj = 2 then true else if zj = 3 then true else zB zj, fun zd => if zd = 8 then .int .i64 c else if zd = 7 then .pointer (some ⟨w.heap.size + 1, 0, none⟩) else zS zd, R, by simp [hb2], by kernel_rfl, ⟨hF.1, hF.2.1, fun _ => rfl, fun _ => rfl, hF.2.2.2.2.1, hF.2.2.2.2.2.1, hF.2.2.2.2.2.2.1, hF.2.2.2.2.2.2.2.1, hF.2.2.2.2.2.2.2.2.1, hF.2.2.2.2.2.2.2.2.2.1, hF.2.2.2.2.2.2.2.2.2.2.1, hF.2.2.2.2.2.2.2.2.2.2.2.1, hF.2.2.2.2.2.2.2.2.2.2.2.2⟩, hW⟩
  refine StepsI.cons rfl ?_ ?_
  ·rintro L zA v ⟨zB, zS, R, rfl, rfl, hF, hW⟩ hL hm K hK
   have hb4 : zB 4 = false := by simpa using hL
   have hb1 : zB 1 = true := mt 1 hm (by kernel_rfl)
   have hb3 : zB 3 = true := mt 3 hm (by kernel_rfl)
   have e1 : zS 6 = .int .i64 a := hF.2.1 hb1
   have e3 : zS 8 = .int .i64 c := hF.2.2.2.1 hb3
   clear hL hm
   simp only [pE]
   simp only [e1, e3]
   go_simp
   refine (compare_any _ _ _).mono ?_
   rintro e v2 ⟨rfl, rfl⟩
   go_wp2_with fail
   exact hK.out _ _ ⟨fun zj => if zj = 3 then true else if zj = 1 then true else if zj = 4 then true else zB zj, fun zd => if zd = 9 then .int .i64 (cmpI a c) else if zd = 8 then .int .i64 c else if zd = 6 then .int .i64 a else zS zd, R, by simp [hb1, hb3], by kernel_rfl, ⟨hF.1, fun _ => rfl, hF.2.2.1, fun _ => rfl, fun _ => rfl, hF.2.2.2.2.2.1, hF.2.2.2.2.2.2.1, hF.2.2.2.2.2.2.2.1, hF.2.2.2.2.2.2.2.2.1, hF.2.2.2.2.2.2.2.2.2.1, hF.2.2.2.2.2.2.2.2.2.2.1, hF.2.2.2.2.2.2.2.2.2.2.2.1, hF.2.2.2.2.2.2.2.2.2.2.2.2⟩, hW⟩
  refine StepsI.cons rfl ?_ ?_
  ·rintro L zA v ⟨zB, zS, R, rfl, rfl, hF, hW⟩ hL hm K hK
   have hb5 : zB 5 = false := by simpa using hL
   clear hL hm
   simp only [pE]
   go_simp
   exact hK.out _ _ ⟨fun zj => if zj = 5 then true else zB zj, fun zd => if zd = 10 then .pointer (some ⟨w.heap.size, 1, none⟩) else zS zd, R, rfl, by kernel_rfl, ⟨hF.1, hF.2.1, hF.2.2.1, hF.2.2.2.1, hF.2.2.2.2.1, fun _ => rfl, hF.2.2.2.2.2.2.1, hF.2.2.2.2.2.2.2.1, hF.2.2.2.2.2.2.2.2.1, hF.2.2.2.2.2.2.2.2.2.1, hF.2.2.2.2.2.2.2.2.2.2.1, hF.2.2.2.2.2.2.2.2.2.2.2.1, hF.2.2.2.2.2.2.2.2.2.2.2.2⟩, hW⟩
  refine StepsI.cons rfl ?_ ?_
  ·rintro L zA v ⟨zB, zS, R, rfl, rfl, hF, hW⟩ hL hm K hK
   have hb6 : zB 6 = false := by simpa using hL
   have hb5 : zB 5 = true := mt 5 hm (by kernel_rfl)
   have e5 : zS 10 = .pointer (some ⟨w.heap.size, 1, none⟩) := hF.2.2.2.2.2.1 hb5
   clear hL hm
   simp only [pE]
   simp only [e5]
   obtain ⟨⟨q0, q1, q2, q3⟩, p0, p1, p2, p3⟩ := hBox _ hW.1.1
   go_simp
   exact hK.out _ _ ⟨fun zj => if zj = 5 then true else if zj = 6 then true else zB zj, fun zd => if zd = 11 then .int .i64 b else if zd = 10 then .pointer (some ⟨w.heap.size, 1, none⟩) else zS zd, R, by simp [hb5], by kernel_rfl, ⟨hF.1, hF.2.1, hF.2.2.1, hF.2.2.2.1, hF.2.2.2.2.1, fun _ => rfl, fun _ => rfl, hF.2.2.2.2.2.2.2.1, hF.2.2.2.2.2.2.2.2.1, hF.2.2.2.2.2.2.2.2.2.1, hF.2.2.2.2.2.2.2.2.2.2.1, hF.2.2.2.2.2.2.2.2.2.2.2.1, hF.2.2.2.2.2.2.2.2.2.2.2.2⟩, hW⟩
  refine StepsI.cons rfl ?_ ?_
  ·rintro L zA v ⟨zB, zS, R, rfl, rfl, hF, hW⟩ hL hm K hK
   have hb7 : zB 7 = false := by simpa using hL
   clear hL hm
   simp only [pE]
   go_simp
   exact hK.out _ _ ⟨fun zj => if zj = 7 then true else zB zj, fun zd => if zd = 12 then .pointer (some ⟨w.heap.size + 1, 1, none⟩) else zS zd, R, rfl, by kernel_rfl, ⟨hF.1, hF.2.1, hF.2.2.1, hF.2.2.2.1, hF.2.2.2.2.1, hF.2.2.2.2.2.1, hF.2.2.2.2.2.2.1, fun _ => rfl, hF.2.2.2.2.2.2.2.2.1, hF.2.2.2.2.2.2.2.2.2.1, hF.2.2.2.2.2.2.2.2.2.2.1, hF.2.2.2.2.2.2.2.2.2.2.2.1, hF.2.2.2.2.2.2.2.2.2.2.2.2⟩, hW⟩
  refine StepsI.cons rfl ?_ ?_
  ·rintro L zA v ⟨zB, zS, R, rfl, rfl, hF, hW⟩ hL hm K hK
   have hb8 : zB 8 = false := by simpa using hL
   have hb7 : zB 7 = true := mt 7 hm (by kernel_rfl)
   have e7 : zS 12 = .pointer (some ⟨w.heap.size + 1, 1, none⟩) := hF.2.2.2.2.2.2.2.1 hb7
   clear hL hm
   simp only [pE]
   simp only [e7]
   obtain ⟨⟨q0, q1, q2, q3⟩, p0, p1, p2, p3⟩ := hBox _ hW.1.1
   go_simp
   exact hK.out _ _ ⟨fun zj => if zj = 7 then true else if zj = 8 then true else zB zj, fun zd => if zd = 13 then .int .i64 d else if zd = 12 then .pointer (some ⟨w.heap.size + 1, 1, none⟩) else zS zd, R, by simp [hb7], by kernel_rfl, ⟨hF.1, hF.2.1, hF.2.2.1, hF.2.2.2.1, hF.2.2.2.2.1, hF.2.2.2.2.2.1, hF.2.2.2.2.2.2.1, fun _ => rfl, fun _ => rfl, hF.2.2.2.2.2.2.2.2.2.1, hF.2.2.2.2.2.2.2.2.2.2.1, hF.2.2.2.2.2.2.2.2.2.2.2.1, hF.2.2.2.2.2.2.2.2.2.2.2.2⟩, hW⟩
  refine StepsI.cons rfl ?_ ?_
  ·rintro L zA v ⟨zB, zS, R, rfl, rfl, hF, hW⟩ hL hm K hK
   have hb9 : zB 9 = false := by simpa using hL
   have hb6 : zB 6 = true := mt 6 hm (by kernel_rfl)
   have hb8 : zB 8 = true := mt 8 hm (by kernel_rfl)
   have e6 : zS 11 = .int .i64 b := hF.2.2.2.2.2.2.1 hb6
   have e8 : zS 13 = .int .i64 d := hF.2.2.2.2.2.2.2.2.1 hb8
   clear hL hm
   simp only [pE]
   simp only [e6, e8]
   go_simp
   refine (compare_any _ _ _).mono ?_
   rintro e v2 ⟨rfl, rfl⟩
   go_wp2_with fail
   exact hK.out _ _ ⟨fun zj => if zj = 8 then true else if zj = 6 then true else if zj = 9 then true else zB zj, fun zd => if zd = 14 then .int .i64 (cmpI b d) else if zd = 13 then .int .i64 d else if zd = 11 then .int .i64 b else zS zd, R, by simp [hb6, hb8], by kernel_rfl, ⟨hF.1, hF.2.1, hF.2.2.1, hF.2.2.2.1, hF.2.2.2.2.1, hF.2.2.2.2.2.1, fun _ => rfl, hF.2.2.2.2.2.2.2.1, fun _ => rfl, fun _ => rfl, hF.2.2.2.2.2.2.2.2.2.2.1, hF.2.2.2.2.2.2.2.2.2.2.2.1, hF.2.2.2.2.2.2.2.2.2.2.2.2⟩, hW⟩
  refine StepsI.cons rfl ?_ ?_
  ·rintro L zA v ⟨zB, zS, R, rfl, rfl, hF, hW⟩ hL hm K hK
   have hb10 : zB 10 = false := by simpa using hL
   have hb4 : zB 4 = true := mt 4 hm (by kernel_rfl)
   have hb9 : zB 9 = true := mt 9 hm (by kernel_rfl)
   have e4 : zS 9 = .int .i64 (cmpI a c) := hF.2.2.2.2.1 hb4
   have e9 : zS 14 = .int .i64 (cmpI b d) := hF.2.2.2.2.2.2.2.2.2.1 hb9
   clear hL hm
   rw [hb10] at hW
   simp only [pE]
   simp only [e4, e9]
   go_simp
   exact hK.out _ _ ⟨fun zj => if zj = 9 then true else if zj = 4 then true else if zj = 10 then true else zB zj, fun zd => if zd = 15 then .slice (some ⟨v.heap.size, 0, none⟩) 2 2 else if zd = 14 then .int .i64 (cmpI b d) else if zd = 9 then .int .i64 (cmpI a c) else zS zd, v.heap.size, by simp [hb4, hb9], by kernel_rfl, ⟨hF.1, hF.2.1, hF.2.2.1, hF.2.2.2.1, fun _ => rfl, hF.2.2.2.2.2.1, hF.2.2.2.2.2.2.1, hF.2.2.2.2.2.2.2.1, hF.2.2.2.2.2.2.2.2.1, fun _ => rfl, fun _ => rfl, hF.2.2.2.2.2.2.2.2.2.2.2.1, hF.2.2.2.2.2.2.2.2.2.2.2.2⟩, ⟨⟨below_step hW.1.1 ((Below.refl _ _).alloc (Nat.le_refl _) _), hW.1.2⟩, fun _ => ⟨by simp [go_sem], by simp [go_sem]⟩⟩⟩
  refine StepsI.cons rfl ?_ ?_
  ·rintro L zA v ⟨zB, zS, R, rfl, rfl, hF, hW⟩ hL hm K hK
   have hb11 : zB 11 = false := by simpa using hL
   have hb10 : zB 10 = true := mt 10 hm (by kernel_rfl)
   have e10 : zS 15 = .slice (some ⟨R, 0, none⟩) 2 2 := hF.2.2.2.2.2.2.2.2.2.2.1 hb10
   clear hL hm
   rw [hb10] at hW
   simp only [pE]
   simp only [e10]
   go_simp
   refine (or2_any _ _ R _ _ (hW.2 (by trivial)).1 (hW.2 (by trivial)).2).mono ?_
   rintro e v2 ⟨rfl, rfl⟩
   go_wp2_with fail
   exact hK.out _ _ ⟨fun zj => if zj = 10 then true else if zj = 11 then true else zB zj, fun zd => if zd = 16 then .int .i64 (orI (cmpI a c) (cmpI b d)) else if zd = 15 then .slice (some ⟨R, 0, none⟩) 2 2 else zS zd, R, by simp [hb10], by kernel_rfl, ⟨hF.1, hF.2.1, hF.2.2.1, hF.2.2.2.1, hF.2.2.2.2.1, hF.2.2.2.2.2.1, hF.2.2.2.2.2.2.1, hF.2.2.2.2.2.2.2.1, hF.2.2.2.2.2.2.2.2.1, hF.2.2.2.2.2.2.2.2.2.1, fun _ => rfl, fun _ => rfl, hF.2.2.2.2.2.2.2.2.2.2.2.2⟩, ⟨hW.1, fun _ => hW.2 (by trivial)⟩⟩
  refine StepsI.cons rfl ?_ ?_
  ·rintro L zA v ⟨zB, zS, R, rfl, rfl, hF, hW⟩ hL hm K hK
   have hb12 : zB 12 = false := by simpa using hL
   have hb11 : zB 11 = true := mt 11 hm (by kernel_rfl)
   have e11 : zS 16 = .int .i64 (orI (cmpI a c) (cmpI b d)) := hF.2.2.2.2.2.2.2.2.2.2.2.1 hb11
   clear hL hm
   simp only [pE]
   simp only [e11]
   go_simp
   exact hK.out _ _ ⟨fun zj => if zj = 11 then true else if zj = 12 then true else zB zj, fun zd => if zd = 4 then .int .i64 (orI (cmpI a c) (cmpI b d)) else if zd = 16 then .int .i64 (orI (cmpI a c) (cmpI b d)) else zS zd, R, by simp [hb11], by kernel_rfl, ⟨hF.1, hF.2.1, hF.2.2.1, hF.2.2.2.1, hF.2.2.2.2.1, hF.2.2.2.2.2.1, hF.2.2.2.2.2.2.1, hF.2.2.2.2.2.2.2.1, hF.2.2.2.2.2.2.2.2.1, hF.2.2.2.2.2.2.2.2.2.1, hF.2.2.2.2.2.2.2.2.2.2.1, fun _ => rfl, fun _ => rfl⟩, hW⟩
  exact StepsI.nil (by kernel_rfl)
 ·rintro L zA v ⟨zB, zS, R, rfl, rfl, hF, hW⟩ hr
  have hu := all_up (by kernel_rfl) (N := 13) (by kernel_rfl) hr
  have hb0 : zB 0 = true := by simpa using hu 0 (by decide)
  have hb1 : zB 1 = true := by simpa using hu 1 (by decide)
  have hb2 : zB 2 = true := by simpa using hu 2 (by decide)
  have hb3 : zB 3 = true := by simpa using hu 3 (by decide)
  have hb4 : zB 4 = true := by simpa using hu 4 (by decide)
  have hb5 : zB 5 = true := by simpa using hu 5 (by decide)
  have hb6 : zB 6 = true := by simpa using hu 6 (by decide)
  have hb7 : zB 7 = true := by simpa using hu 7 (by decide)
  have hb8 : zB 8 = true := by simpa using hu 8 (by decide)
  have hb9 : zB 9 = true := by simpa using hu 9 (by decide)
  have hb10 : zB 10 = true := by simpa using hu 10 (by decide)
  have hb11 : zB 11 = true := by simpa using hu 11 (by decide)
  have hb12 : zB 12 = true := by simpa using hu 12 (by decide)
  have e0 : zS 5 = .pointer (some ⟨w.heap.size, 0, none⟩) := hF.1 hb0
  have e1 : zS 6 = .int .i64 a := hF.2.1 hb1
  have e2 : zS 7 = .pointer (some ⟨w.heap.size + 1, 0, none⟩) := hF.2.2.1 hb2
  have e3 : zS 8 = .int .i64 c := hF.2.2.2.1 hb3
  have e4 : zS 9 = .int .i64 (cmpI a c) := hF.2.2.2.2.1 hb4
  have e5 : zS 10 = .pointer (some ⟨w.heap.size, 1, none⟩) := hF.2.2.2.2.2.1 hb5
  have e6 : zS 11 = .int .i64 b := hF.2.2.2.2.2.2.1 hb6
  have e7 : zS 12 = .pointer (some ⟨w.heap.size + 1, 1, none⟩) := hF.2.2.2.2.2.2.2.1 hb7
  have e8 : zS 13 = .int .i64 d := hF.2.2.2.2.2.2.2.2.1 hb8
  have e9 : zS 14 = .int .i64 (cmpI b d) := hF.2.2.2.2.2.2.2.2.2.1 hb9
  have e10 : zS 15 = .slice (some ⟨R, 0, none⟩) 2 2 := hF.2.2.2.2.2.2.2.2.2.2.1 hb10
  have e11 : zS 16 = .int .i64 (orI (cmpI a c) (cmpI b d)) := hF.2.2.2.2.2.2.2.2.2.2.2.1 hb11
  have e12 : zS 4 = .int .i64 (orI (cmpI a c) (cmpI b d)) := hF.2.2.2.2.2.2.2.2.2.2.2.2 hb12
  rw [hb10] at hW
  clear hu hr hF
  simp only [pE]
  simp only [e0, e1, e2, e3, e4, e5, e6, e7, e8, e9, e10, e11, e12]
  clear e0 e1 e2 e3 e4 e5 e6 e7 e8 e9 e10 e11 e12
  clear hb0 hb1 hb2 hb3 hb4 hb5 hb6 hb7 hb8 hb9 hb10 hb11 hb12
  clear zB zS
  have HB := mkHid (And.intro (below_step B0.out hW.1.1) (Nat.le_trans D0.out hW.1.2))
  clear hW
  go_wp2
  go_ret
  exact ⟨rfl, HB.out⟩
set_option maxHeartbeats 800000 in
theorem sSymLess_any (a b c d : Int) (w : World) : Calls Tryz.prog 78 #[.agg #[.int .i64 a, .int .i64 b], .agg #[.int .i64 c, .int .i64 d]] w fun e w' => e = .returned (.bool (lessB a b c d)) ∧ Below w.heap.size w w' := by
 have B0 := mkHid (((Below.refl w.heap.size w).alloc (Nat.le_refl _) (.cells #[.int .i64 a, .int .i64 b] 49)).alloc (by simp) (.cells #[.int .i64 c, .int .i64 d] 49))
 unfold lessB
 by_cases h1 : a < c
 ·rw [decide_eq_true (.inl h1)]
  go_enter Tryz.func78, Tryz.ntmps78
  go_wp2
  go_ret
  exact ⟨rfl, B0.out⟩
 ·by_cases h2 : a = c
  ·subst h2
   have e : Hid (decide (a < a ∨ a = a ∧ b < d) = decide (b < d)) := mkHid (by rw [decide_eq_decide]; omega)
   rw [e.out]
   have hs : (a == a) = true := by simp
   have hl : ¬ a < a := by omega
   go_enter Tryz.func78, Tryz.ntmps78
   go_wp2
   go_ret
   exact ⟨rfl, B0.out⟩
  ·rw [decide_eq_false (by omega)]
   have hs : (a == c) = false := by simp [h2]
   go_enter Tryz.func78, Tryz.ntmps78
   go_wp2
   go_ret
   exact ⟨rfl, B0.out⟩
set_option maxHeartbeats 800000 in
theorem sSymOk_any (n v c : Int) (w : World) : Calls Tryz.prog 77 #[.int .i64 n, .agg #[.int .i64 v, .int .i64 c]] w fun e w' => e = .returned (.bool (symOkB n v c)) ∧ Below w.heap.size w w' := by
 have B0 := mkHid ((Below.refl w.heap.size w).alloc (Nat.le_refl _) (.cells #[.int .i64 v, .int .i64 c] 49))
 unfold symOkB
 cases h1 : btw n 1 13
 ·go_enter Tryz.func77, Tryz.ntmps77
  go_wp2_with (first | (go_at_call 95; refine (between_any _ _ _ _).mono ?_; rintro e w' ⟨rfl, rfl⟩))
  go_ret
  exact ⟨rfl, B0.out⟩
 ·have hn : 1 ≤ n ∧ n ≤ 13 := of_decide_eq_true h1
  obtain ⟨k, hk⟩ : ∃ k, n - 1 = k := ⟨_, rfl⟩
  have hw : IntKind.i64.wrap (n - 1) = k := by rw [← hk]; exact IntWalk.i64_in _ (by omega)
  rw [hk]
  clear hk hn
  cases h2 : btw v 0 k
  ·go_enter Tryz.func77, Tryz.ntmps77
   go_wp2_with (first | (go_at_call 95; refine (between_any _ _ _ _).mono ?_; rintro e w' ⟨rfl, rfl⟩))
   go_ret
   exact ⟨rfl, B0.out⟩
  ·go_enter Tryz.func77, Tryz.ntmps77
   go_wp2_with (first | (go_at_call 95; refine (between_any _ _ _ _).mono ?_; rintro e w' ⟨rfl, rfl⟩))
   go_ret
   exact ⟨rfl, B0.out⟩
set_option maxHeartbeats 800000 in
theorem iSymOk_any (n v c : Int) (w : World) : Calls Tryz.prog 113 #[.int .i64 n, .agg #[.int .i64 v, .int .i64 c]] w fun e w' => e = .returned (.bool (symOkB n v c)) ∧ Below w.heap.size w w' := by
 have B0 := mkHid ((Below.refl w.heap.size w).alloc (Nat.le_refl _) (.cells #[.int .i64 v, .int .i64 c] 49))
 unfold symOkB
 cases h1 : btw n 1 13
 ·go_enter Tryz.func113, Tryz.ntmps113
  go_wp2_with (first | (go_at_call 129; refine (isBetween_any _ _ _ _).mono ?_; rintro e w' ⟨rfl, rfl⟩))
  go_ret
  exact ⟨rfl, B0.out⟩
 ·have hn : 1 ≤ n ∧ n ≤ 13 := of_decide_eq_true h1
  obtain ⟨k, hk⟩ : ∃ k, n - 1 = k := ⟨_, rfl⟩
  have hw : IntKind.i64.wrap (n - 1) = k := by rw [← hk]; exact IntWalk.i64_in _ (by omega)
  rw [hk]
  clear hk hn
  cases h2 : btw v 0 k
  ·go_enter Tryz.func113, Tryz.ntmps113
   go_wp2_with (first | (go_at_call 129; refine (isBetween_any _ _ _ _).mono ?_; rintro e w' ⟨rfl, rfl⟩))
   go_ret
   exact ⟨rfl, B0.out⟩
  ·go_enter Tryz.func113, Tryz.ntmps113
   go_wp2_with (first | (go_at_call 129; refine (isBetween_any _ _ _ _).mono ?_; rintro e w' ⟨rfl, rfl⟩))
   go_ret
   exact ⟨rfl, B0.out⟩
end Go.Proofs.YtihpajiololfoaaGreat
