/-
  CONTRACTS of the small functions on terms and on what is known of two of them.
  CONTRACT of diffs.areBelow: some term of a list is below some term of another one by what is known.
  CONTRACTS of the specification's l13Below, l13Some, l13Under, l13Between.
  PURE: between which bounds a place lies; CONTRACT of the specification's l13Span.
-/
import Derived.Test.YtihpajiololfoaaGreatSh26
import Derived.Test.YtihpajiololfoaaGreatSh23
import Derived.Deep.RegionHeld3
import Derived.Test.YtihpajiololfoaaGreatSh03
import Derived.Test.YtihpajiololfoaaGreatSh05
namespace Go.Proofs.YtihpajiololfoaaGreat.Q
open Go.RowKit

def symB (i n : Int) : Bool := decide (0 ≤ i ∧ i < n)
theorem btw_sym' {n : Nat} (i : Int) {k : Int} (hk : (n : Int) - 1 = k) : btw i 0 k = symB i n := by unfold btw symB; rw [decide_eq_decide]; omega
set_option maxRecDepth 100000 in
set_option maxHeartbeats 1600000 in
theorem isGap_any (c : Int) (w : World) : Calls Tryz.prog 130 #[.int .i64 c] w fun e w' => e = .returned (.bool (btw c (-2000000) 2000000)) ∧ w = w' := by
  go_enter Tryz.func130, Tryz.ntmps130
  go_wp2_with (go_at_call 129; refine (isBetween_any _ _ _ _).mono ?_; rintro e w' ⟨rfl, rfl⟩)
  go_ret
  exact ⟨rfl, rfl⟩
def offB (c : Int) : Bool := btw c (-2000000) 2000000
set_option maxRecDepth 100000 in
set_option maxHeartbeats 1600000 in
theorem sOff_any (c : Int) (w : World) : Calls Tryz.prog 96 #[.int .i64 c] w fun e w' => e = .returned (.bool (offB c)) ∧ w = w' := by
  go_enter Tryz.func96, Tryz.ntmps96
  go_wp2_with (first | (go_at_call 95; refine (between_any _ _ _ _).mono ?_; rintro e w' ⟨rfl, rfl⟩))
  go_ret
  exact ⟨rfl, rfl⟩
set_option maxRecDepth 100000 in
set_option maxHeartbeats 1600000 in
theorem wide_any (n : Nat) (hn : n ≤ 1000000) (v c : Int) (w : World) : Calls Tryz.prog 88 #[.int .i64 n, .agg #[.int .i64 v, .int .i64 c]] w fun e w' => e = .returned (.bool (symB v n && offB c)) ∧ Below w.heap.size w w' := by
  have B0 := mkHid ((Below.refl w.heap.size w).alloc (Nat.le_refl _) (.cells #[.int .i64 v, .int .i64 c] 49))
  obtain ⟨k, hk⟩ : ∃ k : Int, (n : Int) - 1 = k := ⟨_, rfl⟩
  have hwk : IntKind.i64.wrap ((n : Int) - 1) = k := by rw [← hk]; exact IntWalk.i64_in _ (by omega)
  have hbi := btw_sym' v hk
  clear hk hn
  cases hv : symB v n
  · rw [hv] at hbi
    go_enter Tryz.func88, Tryz.ntmps88
    go_wp2_with (first | (go_at_call 129; refine (isBetween_any _ _ _ _).mono ?_; rintro e w' ⟨rfl, rfl⟩))
    go_ret
    exact ⟨rfl, B0.out⟩
  · rw [hv] at hbi
    go_enter Tryz.func88, Tryz.ntmps88
    go_wp2_with (first | (go_at_call 129; refine (isBetween_any _ _ _ _).mono ?_; rintro e w' ⟨rfl, rfl⟩) | (go_at_call 130; refine (isGap_any _ _).mono ?_; rintro e w' ⟨rfl, rfl⟩))
    go_ret
    exact ⟨rfl, B0.out⟩
theorem Box.new' (w : World) (x y : Int) (T : TypeId) : Box (w.alloc (.cells #[.int .i64 x, .int .i64 y] T)) w.heap.size x y := ⟨by simp [go_sem], by simp [go_sem], by simp [go_sem], by simp [go_sem]⟩
set_option maxRecDepth 100000 in
set_option maxHeartbeats 1600000 in
theorem l08Most_any (n : Nat) (f : Tab) (h2 : n ≤ 13) (hb : Bd n f 10000000) (a : Option Addr) (c0 : Nat) (i j : Nat) (hi : i < n) (hj : j < n) (ac bc : Int) (ha : -2000000 ≤ ac ∧ ac ≤ 2000000) (hbc : -2000000 ≤ bc ∧ bc ≤ 2000000) (w : World) (hl : IntsAt w a (mk n f)) : Calls Tryz.prog 158 #[.agg #[.int .i64 n, .slice a (mk n f).length c0], .agg #[.int .i64 i, .int .i64 ac], .agg #[.int .i64 j, .int .i64 bc]] w fun e w' => e = .returned (.int .i64 (f i j + ac - bc)) ∧ Below w.heap.size w w' := by
  have B0 := mkHid ((((Below.refl w.heap.size w).alloc (Nat.le_refl _) (.cells #[.int .i64 n, .slice a (mk n f).length c0] 38)).alloc (by simp) (.cells #[.int .i64 i, .int .i64 ac] 49)).alloc (by simp; omega) (.cells #[.int .i64 j, .int .i64 bc] 49))
  have T0 : Hid (Fc (((w.alloc (.cells #[.int .i64 n, .slice a (mk n f).length c0] 38)).alloc (.cells #[.int .i64 i, .int .i64 ac] 49)).alloc (.cells #[.int .i64 j, .int .i64 bc] 49)) w.heap.size n a (mk n f).length c0) := mkHid (((Fc.new w n a (mk n f).length c0 38).alloc _).alloc _)
  have P0 : Hid (Box (((w.alloc (.cells #[.int .i64 n, .slice a (mk n f).length c0] 38)).alloc (.cells #[.int .i64 i, .int .i64 ac] 49)).alloc (.cells #[.int .i64 j, .int .i64 bc] 49)) (w.heap.size + 1) i ac) := mkHid (by have := (Box.new' (w.alloc (.cells #[.int .i64 n, .slice a (mk n f).length c0] 38)) i ac 49).below ((Below.refl _ _).alloc (Nat.le_refl _) (.cells #[.int .i64 j, .int .i64 bc] 49)); simpa using this)
  have Q0 : Hid (Box (((w.alloc (.cells #[.int .i64 n, .slice a (mk n f).length c0] 38)).alloc (.cells #[.int .i64 i, .int .i64 ac] 49)).alloc (.cells #[.int .i64 j, .int .i64 bc] 49)) (w.heap.size + 2) j bc) := mkHid (by have := Box.new' ((w.alloc (.cells #[.int .i64 n, .slice a (mk n f).length c0] 38)).alloc (.cells #[.int .i64 i, .int .i64 ac] 49)) j bc 49; simpa using this)
  rw [mk_len] at B0 T0 P0 Q0
  have hlen := mk_len n f
  have hlt := idx_lt hi hj
  obtain ⟨b, o, rfl, cx0⟩ := IntsAt.get' (hl.below B0.out) (k := i * n + j) (by rw [mk_len]; exact hlt)
  have hv : (mk n f).getD (i * n + j) 0 = f i j := mk_V n f i j hi hj
  have hy := hb i j hi hj
  rw [hv] at cx0
  obtain ⟨x, hf⟩ : ∃ x, f i j = x := ⟨_, rfl⟩
  rw [hf] at cx0 hy
  rw [hf]
  have hsq := sq_le h2
  have hm1 : IntKind.i64.wrap ((i : Int) * (n : Int)) = ((i * n : Nat) : Int) := by rw [Int.natCast_mul]; refine IntWalk.i64_in _ ?_; rw [← Int.natCast_mul]; omega
  have hm2 : IntKind.i64.wrap (((i * n : Nat) : Int) + (j : Int)) = ((i * n + j : Nat) : Int) := by rw [Int.natCast_add]; refine IntWalk.i64_in _ ?_; omega
  have hw1 : IntKind.i64.wrap (x + ac) = x + ac := IntWalk.i64_in _ (by omega)
  have hw2 : IntKind.i64.wrap (x + ac - bc) = x + ac - bc := IntWalk.i64_in _ (by omega)
  have hqs : ((i * n + j : Nat) : Int) < ((n * n : Nat) : Int) := by omega
  obtain ⟨q, hq⟩ : ∃ q, i * n + j = q := ⟨_, rfl⟩
  rw [hq] at hm2 cx0 hlt hqs
  obtain ⟨q', hq'⟩ : ∃ q', i * n = q' := ⟨_, rfl⟩
  rw [hq'] at hm1 hm2
  obtain ⟨s, hs⟩ : ∃ s, n * n = s := ⟨_, rfl⟩
  rw [hs] at hqs B0 T0 P0 Q0 cx0 hlen
  rw [hlen]
  obtain ⟨t0, t1⟩ := T0.out
  obtain ⟨p0, p1, p2, p3⟩ := P0.out
  obtain ⟨r0, r1, r2, r3⟩ := Q0.out
  obtain ⟨w1, hw⟩ : ∃ w1, ((w.alloc (.cells #[.int .i64 n, .slice (some ⟨b, o, none⟩) s c0] 38)).alloc (.cells #[.int .i64 i, .int .i64 ac] 49)).alloc (.cells #[.int .i64 j, .int .i64 bc] 49) = w1 := ⟨_, rfl⟩
  rw [hw] at B0 t0 t1 p0 p1 p2 p3 r0 r1 r2 r3 cx0
  have HW := mkHid hw
  clear hl hb hv hf hsq hy hlen ha hbc hi hj h2 hlt hq hq' hs hw T0 P0 Q0
  go_enter Tryz.func158, Tryz.ntmps158
  go_wp2_with fail
  rw [HW.out]
  go_region_held3 (fun u => u.cell? ⟨w.heap.size, 0, none⟩ = some (.int .i64 n) ∧ u.cell? ⟨w.heap.size, 1, none⟩ = some (.slice (some ⟨b, o, none⟩) s c0) ∧ u.cell? ⟨w.heap.size + 1, 0, none⟩ = some (.int .i64 i) ∧ u.cell? ⟨w.heap.size + 1, 1, none⟩ = some (.int .i64 ac) ∧ u.cell? ⟨w.heap.size + 2, 0, none⟩ = some (.int .i64 j) ∧ u.cell? ⟨w.heap.size + 2, 1, none⟩ = some (.int .i64 bc) ∧ u.cell? ⟨b, o + q, none⟩ = some (.int .i64 x))
    (first | exact ⟨t0, t1, p0, p1, r0, r1, cx0⟩)
    (fail)
  go_wp2
  go_ret
  exact ⟨rfl, B0.out.drew⟩
end Go.Proofs.YtihpajiololfoaaGreat.Q
namespace Go.Proofs.YtihpajiololfoaaGreat
open Go.RowKit

/-- A term is below another one by so much, by a table. -/
def bl (f : Q.Tab) (x y : Y) (d : Int) : Bool := decide (f x.1.toNat y.1.toNat + x.2 - y.2 ≤ -d)
def anyB (f : Q.Tab) (L M : List Y) (d : Int) : Bool := L.any fun x => M.any fun y => bl f x y d
/-- A term that may be worked with. -/
def Wd (n : Nat) (x : Y) : Prop := (0 ≤ x.1 ∧ x.1 < n) ∧ -2000000 ≤ x.2 ∧ x.2 ≤ 2000000
theorem any_take {α : Type} {p : α → Bool} {l : List α} {k : Nat} {x : α} (hx : l[k]? = some x) (h : (l.take k).any p = false) (hn : p x = false) : (l.take (k + 1)).any p = false := by
  rw [List.take_add_one, hx, List.any_append, h]
  simp [hn]
theorem any_some {α : Type} {p : α → Bool} {l : List α} {k : Nat} {x : α} (hx : l[k]? = some x) (h : p x = true) : l.any p = true := List.any_eq_true.2 ⟨x, List.mem_of_getElem? hx, h⟩
set_option maxRecDepth 100000 in
set_option maxHeartbeats 3200000 in
theorem areBelow_any (n : Nat) (f : Q.Tab) (h2 : n ≤ 13) (hb : Q.Bd n f 10000000) (L M : List Y) (a a' : Option Addr) (c c' : Nat) (d : Int) (hd : 0 ≤ d ∧ d ≤ 1) (w : World) (hl : L.length ≤ maxLen) (hm : M.length ≤ maxLen) (wL : ∀ x, x ∈ L → Wd n x) (wM : ∀ x, x ∈ M → Wd n x) (aL : At eY w a L) (aM : At eY w a' M) :
    Calls Tryz.prog 90 #[.agg (Q.dA n (Q.grid n f)), .slice a L.length c, .slice a' M.length c', .int .i64 d] w fun e w' => e = .returned (.bool (anyB f L M d)) ∧ Below w.heap.size w w' := by
  unfold maxLen at hl hm
  have B0 := mkHid ((Below.refl w.heap.size w).alloc (Nat.le_refl _) (.cells (Q.dA n (Q.grid n f)) 80))
  have D0 := mkHid (Q.Dif.new w (n := n) (Q.grid_len n f) 80)
  have HV := mkHid (Q.grid_V h2 f)
  have HB := mkHid hb
  have WL := mkHid wL
  have WM := mkHid wM
  have AL := mkHid (aL.below B0.out)
  have AM := mkHid (aM.below B0.out)
  have H2 := mkHid h2
  have hnd : IntKind.i64.wrap (-d) = -d := IntWalk.i64_in _ (by omega)
  obtain ⟨r, hr⟩ : ∃ r, anyB f L M d = r := ⟨_, rfl⟩
  have HR := mkHid hr
  rw [hr]
  obtain ⟨X, hX⟩ : ∃ x, w.heap.size = x := ⟨_, rfl⟩
  obtain ⟨G, hG⟩ : ∃ G, Q.grid n f = G := ⟨_, rfl⟩
  obtain ⟨w0, hw0⟩ : ∃ x, w.alloc (.cells (Q.dA n G) 80) = x := ⟨_, rfl⟩
  rw [hG] at D0 HV B0 AL AM
  rw [hw0] at D0 B0 AL AM
  rw [hG]
  rw [hX] at D0
  clear hb wL wM aL aM h2 hr hG
  go_enter Tryz.func90, Tryz.ntmps90
  go_wp2
  first | rw [hw0] | skip
  first | rw [hX] | skip
  clear hw0 hX
  go_loopg [15] L.length (fun g s15 wr => ∃ (k : Nat), k ≤ L.length ∧ s15 = .int .i64 k ∧ L.length - k ≤ g ∧ anyB f (L.take k) M d = false ∧ Below w0.heap.size w0 wr)
  case atStart => exact ⟨0, Nat.zero_le _, rfl, by omega, rfl, Below.refl _ _⟩
  case round =>
    obtain ⟨k, hk, rfl, hgk, hno, hbel⟩ := hrel
    have HN := mkHid hno
    have HB1 := mkHid hbel
    clear hno
    by_cases hlt : k < L.length
    · obtain ⟨x, hx⟩ : ∃ x, L[k]? = some x := ⟨_, List.getElem?_eq_getElem hlt⟩
      obtain ⟨⟨x0, x1⟩, x2, x3⟩ := WL.out x (List.mem_of_getElem? hx)
      obtain ⟨v, cx⟩ := x
      obtain ⟨i, rfl⟩ : ∃ i : Nat, v = i := ⟨v.toNat, by simp at x0; omega⟩
      simp only at x1 x2 x3
      obtain ⟨b, off, rfl, _, hq⟩ := (AL.out.below hbel).cons (by omega)
      obtain ⟨c0, c1⟩ := get_y hq hx
      have HX := mkHid hx
      obtain ⟨P, hP⟩ : ∃ q, wr.heap.size = q := ⟨_, rfl⟩
      obtain ⟨w1, hw1⟩ : ∃ q, wr.alloc (.cells #[.int .i64 (i : Int), .int .i64 cx] 49) = q := ⟨_, rfl⟩
      have HB2 : Hid (Below w0.heap.size w0 w1) := mkHid (by rw [← hw1]; exact below_step hbel (bl_alloc (Below.refl _ _) _))
      have P1 : Hid (Box w1 P i cx) := mkHid (by rw [← hw1, ← hP]; exact Box.new' _ _ _ _)
      clear hq hbel hx x0
      have i0 : (0 : Int) ≤ (k : Int) := by omega
      have i1 : (k : Int) < (L.length : Int) := by omega
      simp only at c0 c1
      go_wp2
      first | rw [hw1] | skip
      first | rw [hP] | skip
      clear hw1 hP c0 c1
      go_loopg [21] M.length (fun g s21 wy => ∃ (t : Nat), t ≤ M.length ∧ s21 = .int .i64 t ∧ M.length - t ≤ g ∧ ((M.take t).any fun y => bl f ((i : Int), cx) y d) = false ∧ Below w1.heap.size w1 wy)
      case atStart => exact ⟨0, Nat.zero_le _, rfl, by omega, rfl, Below.refl _ _⟩
      case round =>
        obtain ⟨t, ht, rfl, hgt, hno, hbel⟩ := hrel
        have HN2 := mkHid hno
        have HB3 := mkHid hbel
        clear hno
        by_cases htl : t < M.length
        · obtain ⟨y, hy⟩ : ∃ x, M[t]? = some x := ⟨_, List.getElem?_eq_getElem htl⟩
          obtain ⟨⟨y0, y1⟩, y2, y3⟩ := WM.out y (List.mem_of_getElem? hy)
          obtain ⟨v, cy⟩ := y
          obtain ⟨j, rfl⟩ : ∃ i : Nat, v = i := ⟨v.toNat, by simp at y0; omega⟩
          simp only at y1 y2 y3
          obtain ⟨b', off', rfl, _, hq⟩ := ((AM.out.below HB2.out).below hbel).cons (by omega)
          obtain ⟨c0, c1⟩ := get_y hq hy
          simp only at c0 c1
          have HY := mkHid hy
          obtain ⟨R, hR⟩ : ∃ q, wr.heap.size = q := ⟨_, rfl⟩
          obtain ⟨w2, hw2⟩ : ∃ q, wr.alloc (.cells #[.int .i64 (j : Int), .int .i64 cy] 49) = q := ⟨_, rfl⟩
          have A2 : Below wr.heap.size wr w2 := by rw [← hw2]; exact bl_alloc (Below.refl _ _) _
          have HB4 : Hid (Below w1.heap.size w1 w2) := mkHid (below_step hbel A2)
          have Q1 : Hid (Box w2 R j cy) := mkHid (by rw [← hw2, ← hR]; exact Box.new' _ _ _ _)
          have P2 := mkHid ((P1.out.below hbel).below A2)
          have hn13 := H2.out
          have hv := HV.out i j (by omega) (by omega)
          have hbd := HB.out i j (by omega) (by omega)
          obtain ⟨u, hf⟩ : ∃ u, f i j = u := ⟨_, rfl⟩
          rw [hf] at hv hbd
          have cx2 := (((D0.out.below HB2.out).below hbel).below A2).at (i := i) (j := j) (by omega) (by omega) hv
          have HF := mkHid hf
          have hw3 : IntKind.i64.wrap (u + cx) = u + cx := IntWalk.i64_in _ (by omega)
          have hw4 : IntKind.i64.wrap (u + cx - cy) = u + cx - cy := IntWalk.i64_in _ (by omega)
          have a1 : (i : Int) < 13 := by omega
          have a2 : (j : Int) < 13 := by omega
          have j0 : (0 : Int) ≤ (t : Int) := by omega
          have j1 : (t : Int) < (M.length : Int) := by omega
          obtain ⟨p0, p1, p2, p3⟩ := P2.out
          obtain ⟨q0, q1, q2, q3⟩ := Q1.out
          clear hq hbel hy y0 A2 P2 Q1 hv hbd hf
          by_cases he : u + cx - cy ≤ -d
          · have HE : Hid (bl f ((i : Int), cx) ((j : Int), cy) d = true) := mkHid (by unfold bl; refine decide_eq_true ?_; show f ((i : Int).toNat) ((j : Int).toNat) + cx - cy ≤ -d; rw [Int.toNat_natCast, Int.toNat_natCast, HF.out]; exact he)
            go_wp2_with fail
            first | rw [hw2] | skip
            first | rw [hR] | skip
            clear hw2 hR
            go_region_held3 (fun u' => u'.cell? ⟨P, 0, none⟩ = some (.int .i64 i) ∧ u'.cell? ⟨P, 1, none⟩ = some (.int .i64 cx) ∧ u'.cell? ⟨R, 0, none⟩ = some (.int .i64 j) ∧ u'.cell? ⟨R, 1, none⟩ = some (.int .i64 cy) ∧ u'.cell? ⟨X, 1 + i * 13 + j, none⟩ = some (.int .i64 u))
              (first | exact ⟨p0, p1, q0, q1, cx2⟩)
              (fail)
            go_wp2
            go_ret
            refine ⟨ret_bool ?_, below_step (below_step B0.out HB2.out) HB4.out.drew⟩
            rw [← HR.out]
            exact (show anyB f L M d = true from any_some HX.out (any_some HY.out HE.out)).symm
          · have HE : Hid (bl f ((i : Int), cx) ((j : Int), cy) d = false) := mkHid (by unfold bl; refine decide_eq_false ?_; show ¬ f ((i : Int).toNat) ((j : Int).toNat) + cx - cy ≤ -d; rw [Int.toNat_natCast, Int.toNat_natCast, HF.out]; exact he)
            go_wp2_with fail
            first | rw [hw2] | skip
            first | rw [hR] | skip
            clear hw2 hR
            go_region_held3 (fun u' => u'.cell? ⟨P, 0, none⟩ = some (.int .i64 i) ∧ u'.cell? ⟨P, 1, none⟩ = some (.int .i64 cx) ∧ u'.cell? ⟨R, 0, none⟩ = some (.int .i64 j) ∧ u'.cell? ⟨R, 1, none⟩ = some (.int .i64 cy) ∧ u'.cell? ⟨X, 1 + i * 13 + j, none⟩ = some (.int .i64 u))
              (first | exact ⟨p0, p1, q0, q1, cx2⟩)
              (fail)
            go_wp2
            go_roundg (M.length - (t + 1))
            case measure => omega
            case rel => exact ⟨t + 1, by omega, by go_num, Nat.le_refl _, any_take HY.out HN2.out HE.out, HB4.out.drew⟩
        · have e : t = M.length := by omega
          subst e
          have hno := HN2.out
          rw [List.take_length] at hno
          have HN3 := mkHid hno
          clear hno hbel
          go_wp2
          go_roundg (L.length - (k + 1))
          case measure => omega
          case rel => exact ⟨k + 1, by omega, by go_num, Nat.le_refl _, any_take HX.out HN.out HN3.out, below_step HB2.out HB3.out⟩
    · have e : k = L.length := by omega
      subst e
      have hno := HN.out
      rw [List.take_length] at hno
      have HN := mkHid hno
      clear hno hbel
      go_wp2
      go_ret
      exact ⟨ret_bool (HN.out.symm.trans HR.out), below_step B0.out HB1.out⟩
end Go.Proofs.YtihpajiololfoaaGreat
namespace Go.Proofs.YtihpajiololfoaaGreat
open Go.RowKit

theorem any_swap (f : Q.Tab) (L M : List Y) (d : Int) : (M.any fun y => L.any fun x => bl f x y d) = anyB f L M d := by
 unfold anyB
 rw [Bool.eq_iff_iff]
 simp only [List.any_eq_true]
 constructor
 ·rintro ⟨y, hy, x, hx, h⟩; exact ⟨x, hx, y, hy, h⟩
 ·rintro ⟨x, hx, y, hy, h⟩; exact ⟨y, hy, x, hx, h⟩
set_option maxRecDepth 100000 in
set_option maxHeartbeats 3200000 in
theorem l13Below_any (n : Nat) (f : Q.Tab) (h2 : n ≤ 13) (hb : Q.Bd n f 10000000) (a : Option Addr) (c0 : Nat) (x y : Y) (hx : Wd n x) (hy : Wd n y) (d : Int) (hd : 0 ≤ d ∧ d ≤ 1) (w : World) (hl : Q.IntsAt w a (Q.mk n f)) :
  Calls Tryz.prog 134 #[.agg #[.int .i64 n, .slice a (Q.mk n f).length c0], .agg #[.int .i64 x.1, .int .i64 x.2], .agg #[.int .i64 y.1, .int .i64 y.2], .int .i64 d] w fun e w' => e = .returned (.bool (bl f x y d)) ∧ Below w.heap.size w w' := by
 obtain ⟨v, cx⟩ := x
 obtain ⟨v', cy⟩ := y
 obtain ⟨⟨x0, x1⟩, x2, x3⟩ := hx
 obtain ⟨⟨y0, y1⟩, y2, y3⟩ := hy
 obtain ⟨i, rfl⟩ : ∃ i : Nat, v = i := ⟨v.toNat, by simp at x0; omega⟩
 obtain ⟨j, rfl⟩ : ∃ i : Nat, v' = i := ⟨v'.toNat, by simp at y0; omega⟩
 simp only at x1 x2 x3 y1 y2 y3
 have hnd : IntKind.i64.wrap (-d) = -d := IntWalk.i64_in _ (by omega)
 have HLM : Hid (∀ v, Q.IntsAt v a (Q.mk n f) → Calls Tryz.prog 158 #[.agg #[.int .i64 n, .slice a (Q.mk n f).length c0], .agg #[.int .i64 i, .int .i64 cx], .agg #[.int .i64 j, .int .i64 cy]] v fun e w' => e = .returned (.int .i64 (f i j + cx - cy)) ∧ Below v.heap.size v w') := mkHid fun v h => Q.l08Most_any n f h2 hb a c0 i j (by omega) (by omega) cx cy ⟨x2, x3⟩ ⟨y2, y3⟩ v h
 have B0 := mkHid (bl_alloc (bl_alloc (bl_alloc (Below.refl w.heap.size w) (.cells #[.int .i64 n, .slice a (Q.mk n f).length c0] 38)) (.cells #[.int .i64 i, .int .i64 cx] 49)) (.cells #[.int .i64 j, .int .i64 cy] 49))
 have HL := mkHid (hl.below B0.out)
 obtain ⟨l, hll⟩ : ∃ l, (Q.mk n f).length = l := ⟨_, rfl⟩
 rw [hll] at HLM B0 HL
 rw [hll]
 have EB : Hid (bl f ((i : Int), cx) ((j : Int), cy) d = decide (f i j + cx - cy ≤ -d)) := mkHid (by unfold bl; simp only [Int.toNat_natCast])
 clear hl hb hll
 go_enter Tryz.func134, Tryz.ntmps134
 go_wp2_with (go_at_call 158; refine (HLM.out _ HL.out).mono ?_; rintro e w' ⟨rfl, hb2⟩)
 go_ret
 exact ⟨ret_bool EB.out.symm, below_step B0.out hb2⟩
set_option maxRecDepth 100000 in
set_option maxHeartbeats 3200000 in
theorem l13Some_any (n : Nat) (f : Q.Tab) (h2 : n ≤ 13) (hb : Q.Bd n f 10000000) (a : Option Addr) (c0 : Nat) (L : List Y) (al : Option Addr) (cl : Nat) (y : Y) (hy : Wd n y) (d : Int) (hd : 0 ≤ d ∧ d ≤ 1) (w : World) (hln : L.length ≤ maxLen) (wL : ∀ x, x ∈ L → Wd n x) (hl : Q.IntsAt w a (Q.mk n f)) (aL : At eY w al L) :
  Calls Tryz.prog 97 #[.agg #[.int .i64 n, .slice a (Q.mk n f).length c0], .slice al L.length cl, .agg #[.int .i64 y.1, .int .i64 y.2], .int .i64 d] w fun e w' => e = .returned (.bool (L.any fun x => bl f x y d)) ∧ Below w.heap.size w w' := by
 unfold maxLen at hln
 obtain ⟨l, hll⟩ : ∃ l, Q.mk n f = l := ⟨_, rfl⟩
 have HC : Hid (∀ x v, Wd n x → Q.IntsAt v a l → Calls Tryz.prog 134 #[.agg #[.int .i64 n, .slice a l.length c0], .agg #[.int .i64 x.1, .int .i64 x.2], .agg #[.int .i64 y.1, .int .i64 y.2], .int .i64 d] v fun e w' => e = .returned (.bool (bl f x y d)) ∧ Below v.heap.size v w') := mkHid fun x v h k => by rw [← hll] at k ⊢; exact l13Below_any n f h2 hb a c0 x y h hy d hd v k
 obtain ⟨w0, hw0⟩ : ∃ q, (w.alloc (.cells #[.int .i64 n, .slice a l.length c0] 38)).alloc (.cells #[.int .i64 y.1, .int .i64 y.2] 49) = q := ⟨_, rfl⟩
 have B0 : Hid (Below w.heap.size w w0) := mkHid (by rw [← hw0]; exact bl_alloc (bl_alloc (Below.refl _ _) _) _)
 obtain ⟨X, hX⟩ : ∃ x, w.heap.size = x := ⟨_, rfl⟩
 have T0 : Hid (Q.Fc w0 X n a l.length c0) := mkHid (by rw [← hw0, ← hX]; exact (Q.Fc.new w n a l.length c0 38).below (bl_alloc (Below.refl _ _) _))
 have P0 : Hid (Box w0 (X + 1) y.1 y.2) := mkHid (by rw [← hw0, ← hX]; have := Box.new' (w.alloc (.cells #[.int .i64 n, .slice a l.length c0] 38)) y.1 y.2 49; simpa using this)
 rw [hll] at hl
 rw [hll]
 have HL := mkHid (hl.below B0.out)
 have AL := mkHid (aL.below B0.out)
 have WL := mkHid wL
 obtain ⟨r, hr⟩ : ∃ r, (L.any fun x => bl f x y d) = r := ⟨_, rfl⟩
 have HR := mkHid hr
 rw [hr]
 clear hl aL wL hr hll hb hy
 go_enter Tryz.func97, Tryz.ntmps97
 go_wp2
 first | rw [hw0] | skip
 first | rw [hX] | skip
 clear hw0 hX
 go_loopg [9] L.length (fun g s9 wr => ∃ (k : Nat), k ≤ L.length ∧ s9 = .int .i64 k ∧ L.length - k ≤ g ∧ ((L.take k).any fun x => bl f x y d) = false ∧ Below w0.heap.size w0 wr)
 case atStart => exact ⟨0, Nat.zero_le _, rfl, by omega, rfl, Below.refl _ _⟩
 case round =>
  obtain ⟨k, hk, rfl, hgk, hno, hbel⟩ := hrel
  have HN := mkHid hno
  have HB1 := mkHid hbel
  clear hno
  by_cases hlt : k < L.length
  ·obtain ⟨x, hx⟩ : ∃ x, L[k]? = some x := ⟨_, List.getElem?_eq_getElem hlt⟩
   have hwx := WL.out x (List.mem_of_getElem? hx)
   obtain ⟨b, off, rfl, _, hq⟩ := (AL.out.below hbel).cons (by omega)
   obtain ⟨k0, k1⟩ := get_y hq hx
   have HX := mkHid hx
   obtain ⟨t0, t1⟩ := T0.out.below hbel
   obtain ⟨p0, p1, _, _⟩ := P0.out.below hbel
   have HLK := mkHid ((HL.out.below hbel).below (Below.refl _ _).drew)
   have HWX := mkHid hwx
   clear hq hbel hx hwx
   have i0 : (0 : Int) ≤ (k : Int) := by omega
   have i1 : (k : Int) < (L.length : Int) := by omega
   go_wp2_with fail
   go_region_held3 (fun u' => (u'.cell? ⟨X, 0, none⟩ = some (.int .i64 n) ∧ u'.cell? ⟨X, 1, none⟩ = some (.slice a l.length c0)) ∧ (u'.cell? ⟨b, off + k * 2, none⟩ = some (.int .i64 x.1) ∧ u'.cell? ⟨b, off + k * 2 + 1, none⟩ = some (.int .i64 x.2)) ∧ (u'.cell? ⟨X + 1, 0, none⟩ = some (.int .i64 y.1) ∧ u'.cell? ⟨X + 1, 1, none⟩ = some (.int .i64 y.2)))
    (first | exact ⟨⟨t0, t1⟩, ⟨k0, k1⟩, ⟨p0, p1⟩⟩ | exact ⟨⟨t0', t1'⟩, ⟨k0', k1'⟩, ⟨p0', p1'⟩⟩)
    (first | (go_at_call 134; refine (HC.out x _ HWX.out HLK.out).mono ?_; rintro e w5 ⟨rfl, hb5⟩; have t0' := (hb5.cell (p := ⟨X, 0, none⟩) (World.block_lt_of_cell? wr _ t0)).trans t0; have t1' := (hb5.cell (p := ⟨X, 1, none⟩) (World.block_lt_of_cell? wr _ t1)).trans t1; have k0' := (hb5.cell (p := ⟨b, off + k * 2, none⟩) (World.block_lt_of_cell? wr _ k0)).trans k0; have k1' := (hb5.cell (p := ⟨b, off + k * 2 + 1, none⟩) (World.block_lt_of_cell? wr _ k1)).trans k1; have p0' := (hb5.cell (p := ⟨X + 1, 0, none⟩) (World.block_lt_of_cell? wr _ p0)).trans p0; have p1' := (hb5.cell (p := ⟨X + 1, 1, none⟩) (World.block_lt_of_cell? wr _ p1)).trans p1))
   have HB5 := mkHid (below_step HB1.out.drew hb5)
   clear hb5
   cases he : bl f x y d
   ·have HE := mkHid he
    clear he
    go_wp2
    go_roundg (L.length - (k + 1))
    case measure => omega
    case rel => exact ⟨k + 1, by omega, by go_num, Nat.le_refl _, any_take HX.out HN.out HE.out, HB5.out⟩
   ·have HE := mkHid he
    clear he
    go_wp2
    go_ret
    exact ⟨ret_bool ((any_some HX.out HE.out).symm.trans HR.out), below_step B0.out HB5.out⟩
  ·have e : k = L.length := by omega
   subst e
   have hno := HN.out
   rw [List.take_length] at hno
   have HN := mkHid hno
   clear hno hbel
   go_wp2
   go_ret
   exact ⟨ret_bool (HN.out.symm.trans HR.out), below_step B0.out HB1.out⟩
set_option maxRecDepth 100000 in
set_option maxHeartbeats 3200000 in
theorem l13Between_any (n : Nat) (f : Q.Tab) (h2 : n ≤ 13) (hb : Q.Bd n f 10000000) (a : Option Addr) (c0 : Nat) (M : List Y) (am : Option Addr) (cm : Nat) (hm : M.length ≤ maxLen) (wM : ∀ x, x ∈ M → Wd n x) (L : List Y) (al : Option Addr) (cl : Nat) (d : Int) (hd : 0 ≤ d ∧ d ≤ 1) (w : World) (hln : L.length ≤ maxLen) (wL : ∀ x, x ∈ L → Wd n x) (hl : Q.IntsAt w a (Q.mk n f)) (aL : At eY w al L) (aM : At eY w am M) :
  Calls Tryz.prog 81 #[.agg #[.int .i64 n, .slice a (Q.mk n f).length c0], .slice am M.length cm, .slice al L.length cl, .int .i64 d] w fun e w' => e = .returned (.bool (anyB f M L d)) ∧ Below w.heap.size w w' := by
 unfold maxLen at hln
 obtain ⟨l, hll⟩ : ∃ l, Q.mk n f = l := ⟨_, rfl⟩
 have HC : Hid (∀ y v, Wd n y → Q.IntsAt v a l → At eY v am M → Calls Tryz.prog 97 #[.agg #[.int .i64 n, .slice a l.length c0], .slice am M.length cm, .agg #[.int .i64 y.1, .int .i64 y.2], .int .i64 d] v fun e w' => e = .returned (.bool (M.any fun x => bl f x y d)) ∧ Below v.heap.size v w') := mkHid fun y v h k k2 => by rw [← hll] at k ⊢; exact l13Some_any n f h2 hb a c0 M am cm y h d hd v hm wM k k2
 obtain ⟨w0, hw0⟩ : ∃ q, (w.alloc (.cells #[.int .i64 n, .slice a l.length c0] 38)) = q := ⟨_, rfl⟩
 have B0 : Hid (Below w.heap.size w w0) := mkHid (by rw [← hw0]; exact bl_alloc (Below.refl _ _) _)
 obtain ⟨X, hX⟩ : ∃ x, w.heap.size = x := ⟨_, rfl⟩
 have T0 : Hid (Q.Fc w0 X n a l.length c0) := mkHid (by rw [← hw0, ← hX]; exact Q.Fc.new w n a l.length c0 38)
 have AM := mkHid (aM.below B0.out)
 rw [hll] at hl
 rw [hll]
 have HL := mkHid (hl.below B0.out)
 have AL := mkHid (aL.below B0.out)
 have WL := mkHid wL
 obtain ⟨r, hr⟩ : ∃ r, (anyB f M L d) = r := ⟨_, rfl⟩
 have HR : Hid ((L.any fun y => M.any fun x => bl f x y d) = r) := mkHid ((any_swap f M L d).trans hr)
 rw [hr]
 clear hl aL wL hr hll hb aM
 go_enter Tryz.func81, Tryz.ntmps81
 go_wp2
 first | rw [hw0] | skip
 first | rw [hX] | skip
 clear hw0 hX
 go_loopg [9] L.length (fun g s9 wr => ∃ (k : Nat), k ≤ L.length ∧ s9 = .int .i64 k ∧ L.length - k ≤ g ∧ ((L.take k).any fun y => M.any fun x => bl f x y d) = false ∧ Below w0.heap.size w0 wr)
 case atStart => exact ⟨0, Nat.zero_le _, rfl, by omega, rfl, Below.refl _ _⟩
 case round =>
  obtain ⟨k, hk, rfl, hgk, hno, hbel⟩ := hrel
  have HN := mkHid hno
  have HB1 := mkHid hbel
  clear hno
  by_cases hlt : k < L.length
  ·obtain ⟨x, hx⟩ : ∃ x, L[k]? = some x := ⟨_, List.getElem?_eq_getElem hlt⟩
   have hwx := WL.out x (List.mem_of_getElem? hx)
   obtain ⟨b, off, rfl, _, hq⟩ := (AL.out.below hbel).cons (by omega)
   obtain ⟨k0, k1⟩ := get_y hq hx
   have HX := mkHid hx
   obtain ⟨t0, t1⟩ := T0.out.below hbel
   have HLK := mkHid ((HL.out.below hbel).below (Below.refl _ _).drew)
   have AMK := mkHid ((AM.out.below hbel).below (Below.refl _ _).drew)
   have HWX := mkHid hwx
   clear hq hbel hx hwx
   have i0 : (0 : Int) ≤ (k : Int) := by omega
   have i1 : (k : Int) < (L.length : Int) := by omega
   go_wp2_with fail
   go_region_held3 (fun u' => (u'.cell? ⟨X, 0, none⟩ = some (.int .i64 n) ∧ u'.cell? ⟨X, 1, none⟩ = some (.slice a l.length c0)) ∧ (u'.cell? ⟨b, off + k * 2, none⟩ = some (.int .i64 x.1) ∧ u'.cell? ⟨b, off + k * 2 + 1, none⟩ = some (.int .i64 x.2)))
    (first | exact ⟨⟨t0, t1⟩, ⟨k0, k1⟩⟩ | exact ⟨⟨t0', t1'⟩, ⟨k0', k1'⟩⟩)
    (first | (go_at_call 97; refine (HC.out x _ HWX.out HLK.out AMK.out).mono ?_; rintro e w5 ⟨rfl, hb5⟩; have t0' := (hb5.cell (p := ⟨X, 0, none⟩) (World.block_lt_of_cell? wr _ t0)).trans t0; have t1' := (hb5.cell (p := ⟨X, 1, none⟩) (World.block_lt_of_cell? wr _ t1)).trans t1; have k0' := (hb5.cell (p := ⟨b, off + k * 2, none⟩) (World.block_lt_of_cell? wr _ k0)).trans k0; have k1' := (hb5.cell (p := ⟨b, off + k * 2 + 1, none⟩) (World.block_lt_of_cell? wr _ k1)).trans k1))
   have HB5 := mkHid (below_step HB1.out.drew hb5)
   clear hb5
   cases he : M.any fun z => bl f z x d
   ·have HE := mkHid he
    clear he
    go_wp2
    go_roundg (L.length - (k + 1))
    case measure => omega
    case rel => exact ⟨k + 1, by omega, by go_num, Nat.le_refl _, any_take HX.out HN.out HE.out, HB5.out⟩
   ·have HE := mkHid he
    clear he
    go_wp2
    go_ret
    exact ⟨ret_bool ((any_some HX.out HE.out).symm.trans HR.out), below_step B0.out HB5.out⟩
  ·have e : k = L.length := by omega
   subst e
   have hno := HN.out
   rw [List.take_length] at hno
   have HN := mkHid hno
   clear hno hbel
   go_wp2
   go_ret
   exact ⟨ret_bool (HN.out.symm.trans HR.out), below_step B0.out HB1.out⟩
end Go.Proofs.YtihpajiololfoaaGreat
namespace Go.Proofs.YtihpajiololfoaaGreat
open Go.RowKit

/-- The greatest number from k down at which P holds, or 0. -/
def dn (P : Nat → Bool) : Nat → Nat
 | 0 => 0
 | k + 1 => if P (k + 1) then k + 1 else dn P k
/-- The least number from last - k on, below last, at which Q holds, or last. -/
def uq (Q : Nat → Bool) (last : Nat) : Nat → Nat
 | 0 => last
 | k + 1 => if Q (last - (k + 1)) then last - (k + 1) else uq Q last k
def pF (f : Q.Tab) (B : List (List Y)) (a : Y) (i : Nat) : Bool := (B.getD i []).any fun x => bl f x a 0
def pT (f : Q.Tab) (B : List (List Y)) (b : Y) (i : Nat) : Bool := (B.getD i []).any fun x => bl f b x 1
def spF (f : Q.Tab) (B : List (List Y)) (a : Y) : Nat := dn (pF f B a) (B.length - 2)
def spT (f : Q.Tab) (B : List (List Y)) (a b : Y) : Nat := uq (pT f B b) (B.length - 1) (B.length - 1 - (spF f B a + 1))
/-- The two bounds that SegSpan tells. -/
def span (f : Q.Tab) (B : List (List Y)) (a b : Y) : Nat × Nat := if B.length ≤ 1 then (0, 0) else (spF f B a, spT f B a b)
/-- All terms may be worked with. -/
def Wds (n : Nat) (B : List (List Y)) : Prop := ∀ b, b ∈ B → ∀ x, x ∈ b → Wd n x
end Go.Proofs.YtihpajiololfoaaGreat
