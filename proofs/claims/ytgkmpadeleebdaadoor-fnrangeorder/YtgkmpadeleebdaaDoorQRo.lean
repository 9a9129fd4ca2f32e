/-
  THE LAW's WALK of FnRangeOrder.
-/
import Derived.Test.YtgkmpadeleebdaaDoorQPo
import Derived.Deep.Cut
namespace Go.Proofs.YtgkmpadeleebdaaDoor
open Go.RowKit

theorem textM_short {a b : Int} (h : okB a b = true) : (textM a b).size ≤ 100 := by
  rw [← ba_len]
  have hM : (textM a b).data.toList.length ≤ 30 := by
    cases hi : isB a b
    · rw [textM_non h hi]; decide
    · rw [textM_rng h hi]
      obtain ⟨q1, q2, q3⟩ := some_of_ok h hi
      have l1 := itoa_len (n := a) q1 (by omega)
      have l2 := itoa_len (n := b) (by omega) q3
      unfold rngL
      simp only [List.length_append, List.length_cons]
      omega
  omega
theorem iRead_b (a b : Int) (hok : okB a b = true) (w : World) (hE : Env w) : Calls Tryd.prog 17 #[.string (textM a b)] w fun e w' => e = .returned (.tuple #[.agg #[.int .i64 a, .int .i64 b], .bool true]) ∧ Below w.heap.size w w' := by
  refine (iRead_any (textM a b) w hE (by have := textM_short hok; omega)).mono ?_
  rintro e w' ⟨r, rfl, hr, hb⟩
  have h2 : ReadsR (textM a b).data.toList (some (a, b)) := ⟨hok, rfl⟩
  have e := reads_same hr h2
  subst e
  exact ⟨rfl, hb⟩
namespace Q
open Go.RowKit

/-- A run of slots put anew. -/
def pC (a : Act) (m e : Nat) (vs : List Value) : Act := ⟨(a.tmps.toList.take m ++ vs ++ a.tmps.toList.drop e).toArray, a.defers⟩
theorem pCE : (∀ t ds m e vs, pC ⟨t, ds⟩ m e vs = ⟨(t.toList.take m ++ vs ++ t.toList.drop e).toArray, ds⟩) ∧ (∀ l : List Value, l.toArray.toList = l) ∧ (∀ (a : Value) l n, (a :: l).take (n + 1) = a :: l.take n) ∧ (∀ l : List Value, l.take 0 = []) ∧ (∀ (a : Value) l n, (a :: l).drop (n + 1) = l.drop n) ∧ (∀ l : List Value, l.drop 0 = l) ∧ (∀ (a : Value) l k, (a :: l) ++ k = a :: (l ++ k)) ∧ (∀ l : List Value, [] ++ l = l) :=
  ⟨fun _ _ _ _ _ => rfl, fun _ => rfl, fun _ _ _ => rfl, fun _ => rfl, fun _ _ _ => rfl, fun _ => rfl, fun _ _ _ => rfl, fun _ => rfl⟩
theorem neq_rng (w : World) (a b c d : Int) : (Go.binOp .neq 25 (.agg #[.int .i64 a, .int .i64 b]) (.agg #[.int .i64 c, .int .i64 d])).run Tryd.prog w = .ok (.bool (!eqB a b c d)) w := by
  have u3 := Tryd.underlying3
  have a3 := Tryd.isAgg3
  have z3 := Tryd.sizeOf3
  have hS : Tryd.prog.underlying 25 = some (.struct (Tryd.prog.fieldsOf 25)) := by kernel_rfl
  have hp : Tryd.prog.stoodInHeld 25 = false := by kernel_rfl
  rw [run_neq_struct, show (10000 : Nat) = 9999 + 1 from rfl, run_equalIn_agg w 9999 25 _ _ hS hp]
  simp only [Program.fieldsOf, Tryd.underlying25]
  go_simp
  unfold eqB
  by_cases h1 : a = c <;> by_cases h2 : b = d <;> simp [h1, h2]
theorem eqB_self (a b : Int) : eqB a b a b = true := by unfold eqB; simp
theorem Bytes.up2 {w w' : World} {a : Option Addr} {n : Nat} (h : Bytes w w.heap.size a n) (hb : Below w.heap.size w w') : Bytes w' w'.heap.size a n := h.up hb.size hb
theorem Box.made (w : World) (x y : Int) : Box (w.alloc (.cells #[.int .i64 x, .int .i64 y] 25)) w.heap.size x y := by refine ⟨?_, ?_, ?_, ?_⟩ <;> simp [go_sem]
set_option maxRecDepth 100000 in
set_option maxHeartbeats 25600000 in
theorem order_walk (a1 a2 : Option Addr) (n1 c1 n2 c2 : Nat) (w : World) (hE : Env w) (hn1 : n1 ≤ maxLen) (hn2 : n2 ≤ maxLen) (hb1 : Bytes w w.heap.size a1 n1) (hb2 : Bytes w w.heap.size a2 n2) : Calls Tryd.prog 3 #[.slice a1 n1 c1, .slice a2 n2 c2] w fun e w' => e = .returned (.bool true) ∧ Below w.heap.size w w' := by
  have HE := mkHid hE
  have HM0 := mkHid hb2
  have HB0 := mkHid hb1
  have HN1 := mkHid hn1
  have HN2 := mkHid hn2
  clear hE hb1 hb2 hn1 hn2
  by_cases g1 : 1048576 < n1
  · have e1 : decide (1048576 < n1) = true := decide_eq_true g1
    go_enter Tryd.func3, Tryd.ntmps3
    go_wp2_with fail
    refine (big_any n1 _ _ _ HN1.out).mono ?_
    rintro e w' ⟨rfl, rfl⟩
    go_wp2
    go_ret
    exact ⟨rfl, Below.refl _ _⟩
  have e1 : decide (1048576 < n1) = false := decide_eq_false g1
  by_cases g2 : 1048576 < n2
  · have e2 : decide (1048576 < n2) = true := decide_eq_true g2
    go_enter Tryd.func3, Tryd.ntmps3
    go_wp2_with fail
    refine (big_any n1 _ _ _ HN1.out).mono ?_
    rintro e w' ⟨rfl, rfl⟩
    go_wp2_with fail
    refine (big_any n2 _ _ _ HN2.out).mono ?_
    rintro e w' ⟨rfl, rfl⟩
    go_wp2
    go_ret
    exact ⟨rfl, Below.refl _ _⟩
  have e2 : decide (1048576 < n2) = false := decide_eq_false g2
  have HM1 := mkHid (show n1 ≤ 1048576 by omega)
  have HM2 := mkHid (show n2 ≤ 1048576 by omega)
  clear g1 g2
  go_enter Tryd.func3, Tryd.ntmps3
  go_wp2_with fail
  refine (big_any n1 _ _ _ HN1.out).mono ?_
  rintro e w' ⟨rfl, rfl⟩
  go_wp2_with fail
  refine (big_any n2 _ _ _ HN2.out).mono ?_
  rintro e w' ⟨rfl, rfl⟩
  have BE := mkHid (Below.refl w.heap.size w)
  have HM := HM0
  go_wp2_with fail
  refine (drawJoin_any n1 c1 a1 w HM1.out HB0.out).mono ?_
  rintro e w1 ⟨a, b, c, d, rfl, hb⟩
  obtain ⟨A, hA⟩ : ∃ q, w1.heap.size = q := ⟨_, rfl⟩
  obtain ⟨w2, hw2⟩ : ∃ x, (w1.alloc (.cells #[.int .i64 a, .int .i64 b] 25)).alloc (.cells #[.int .i64 c, .int .i64 d] 25) = x := ⟨_, rfl⟩
  have A2 : Below w1.heap.size w1 w2 := by rw [← hw2]; exact bl_alloc (bl_alloc (Below.refl _ _) _) _
  have hb2 := below_step hb A2
  have BE := mkHid (below_step BE.out hb2)
  have HM := mkHid (Bytes.up2 HM.out hb2)
  have HE := mkHid (HE.out.below hb2)
  have FA : Hid (Box w2 A a b) := mkHid (by rw [← hw2, ← hA]; exact (Box.made w1 a b).below (bl_alloc (Below.refl _ _) _))
  have FB : Hid (Box w2 (A + 1) c d) := mkHid (by rw [← hw2, ← hA]; have := Box.made (w1.alloc (.cells #[.int .i64 a, .int .i64 b] 25)) c d; simpa using this)
  clear hb hb2 A2
  go_wp2_with fail
  first | rw [hw2] | skip
  first | rw [hA] | skip
  clear hw2 hA
  refine (drawWiden_any n2 c2 a2 w2 HM2.out HM.out).mono ?_
  rintro e w3 ⟨x1, y1, x2, y2, st, gs, cs, rfl, hst, hI, hgs, hb⟩
  obtain ⟨D, hD⟩ : ∃ q, w3.heap.size = q := ⟨_, rfl⟩
  obtain ⟨w4, hw4⟩ : ∃ x, (w3.alloc (.cells #[.int .i64 x1, .int .i64 y1] 25)).alloc (.cells #[.int .i64 x2, .int .i64 y2] 25) = x := ⟨_, rfl⟩
  have A2 : Below w3.heap.size w3 w4 := by rw [← hw4]; exact bl_alloc (bl_alloc (Below.refl _ _) _) _
  have hb2 := below_step hb A2
  have BE := mkHid (below_step BE.out hb2)
  have HE := mkHid (HE.out.below hb2)
  have FA := mkHid (FA.out.below hb2)
  have FB := mkHid (FB.out.below hb2)
  have FD : Hid (Box w4 D x1 y1) := mkHid (by rw [← hw4, ← hD]; exact (Box.made w3 x1 y1).below (bl_alloc (Below.refl _ _) _))
  have IS := mkHid (hI.below A2)
  have HST := mkHid (show st.length ≤ maxLen by unfold maxLen; omega)
  clear hb hb2 A2 hst hI hgs HM HB0 HM0
  obtain ⟨j1, hj1⟩ : ∃ q, (joinM a b c d).1 = q := ⟨_, rfl⟩
  obtain ⟨j2, hj2⟩ : ∃ q, (joinM a b c d).2 = q := ⟨_, rfl⟩
  obtain ⟨m1, hm1⟩ : ∃ q, (meetM a b c d).1 = q := ⟨_, rfl⟩
  obtain ⟨m2, hm2⟩ : ∃ q, (meetM a b c d).2 = q := ⟨_, rfl⟩
  obtain ⟨p1, hp1⟩ : ∃ q, (widenM a b c d st).1 = q := ⟨_, rfl⟩
  obtain ⟨p2, hp2⟩ : ∃ q, (widenM a b c d st).2 = q := ⟨_, rfl⟩
  have C7 : Hid (∀ v, Calls Tryd.prog 7 #[.agg #[.int .i64 a, .int .i64 b], .agg #[.int .i64 c, .int .i64 d]] v fun e w' => e = .returned (.agg #[.int .i64 j1, .int .i64 j2]) ∧ Below v.heap.size v w') := mkHid fun v => by rw [← hj1, ← hj2]; exact iJoin_any a b c d v
  have C10 : Hid (∀ v, Calls Tryd.prog 10 #[.agg #[.int .i64 a, .int .i64 b], .agg #[.int .i64 c, .int .i64 d]] v fun e w' => e = .returned (.agg #[.int .i64 j1, .int .i64 j2]) ∧ Below v.heap.size v w') := mkHid fun v => by rw [← hj1, ← hj2]; exact sJoin_any a b c d v
  have C8 : Hid (∀ v, Calls Tryd.prog 8 #[.agg #[.int .i64 a, .int .i64 b], .agg #[.int .i64 c, .int .i64 d]] v fun e w' => e = .returned (.agg #[.int .i64 m1, .int .i64 m2]) ∧ Below v.heap.size v w') := mkHid fun v => by rw [← hm1, ← hm2]; exact iMeet_any a b c d v
  have C11 : Hid (∀ v, Calls Tryd.prog 11 #[.agg #[.int .i64 a, .int .i64 b], .agg #[.int .i64 c, .int .i64 d]] v fun e w' => e = .returned (.agg #[.int .i64 m1, .int .i64 m2]) ∧ Below v.heap.size v w') := mkHid fun v => by rw [← hm1, ← hm2]; exact sMeet_any a b c d v
  have C9 : Hid (∀ v, IntsIn v st gs 0 → Calls Tryd.prog 9 #[.agg #[.int .i64 a, .int .i64 b], .agg #[.int .i64 c, .int .i64 d], .slice (some ⟨gs, 0, none⟩) st.length cs] v fun e w' => e = .returned (.agg #[.int .i64 p1, .int .i64 p2]) ∧ Below v.heap.size v w') := mkHid fun v h => by rw [← hp1, ← hp2]; exact iWiden_of a b c d st gs 0 cs v h HST.out
  have C12 : Hid (∀ v, IntsIn v st gs 0 → Calls Tryd.prog 12 #[.agg #[.int .i64 a, .int .i64 b], .agg #[.int .i64 c, .int .i64 d], .slice (some ⟨gs, 0, none⟩) st.length cs] v fun e w' => e = .returned (.agg #[.int .i64 p1, .int .i64 p2]) ∧ Below v.heap.size v w') := mkHid fun v h => by rw [← hp1, ← hp2]; exact sWiden_of a b c d st gs 0 cs v h HST.out
  have EJ := mkHid (And.intro hj1 hj2)
  have EM := mkHid (And.intro hm1 hm2)
  have EP := mkHid (And.intro hp1 hp2)
  clear hj1 hj2 hm1 hm2 hp1 hp2
  obtain ⟨k0, k1, _, _⟩ := FA.out
  obtain ⟨k2, k3, _, _⟩ := FB.out
  go_wp2_with fail
  first | rw [hw4] | skip
  first | rw [hD] | skip
  clear k0 k1 k2 k3 hw4 hD
  refine (C7.out _).mono ?_
  rintro e w5 ⟨rfl, hb⟩
  obtain ⟨J, hJ⟩ : ∃ q, w5.heap.size = q := ⟨_, rfl⟩
  obtain ⟨z5, hz5⟩ : ∃ x, w5.alloc (.cells #[.int .i64 j1, .int .i64 j2] 25) = x := ⟨_, rfl⟩
  have A2 : Below w5.heap.size w5 z5 := by rw [← hz5]; exact bl_alloc (Below.refl _ _) _
  have hb2 := below_step hb A2
  have BE := mkHid (below_step BE.out hb2)
  have HE := mkHid (HE.out.below hb2)
  have FA := mkHid (FA.out.below hb2)
  have FB := mkHid (FB.out.below hb2)
  have FD := mkHid (FD.out.below hb2)
  have IS := mkHid (IS.out.below hb2)
  have FJ : Hid (Box z5 J j1 j2) := mkHid (by rw [← hz5, ← hJ]; exact Box.made _ _ _)
  clear hb hb2 A2 C7
  obtain ⟨k0, k1, _, _⟩ := FA.out
  obtain ⟨k2, k3, _, _⟩ := FB.out
  go_wp2_with fail
  first | rw [hz5] | skip
  first | rw [hJ] | skip
  clear k0 k1 k2 k3 hz5 hJ
  refine (C8.out _).mono ?_
  rintro e w6 ⟨rfl, hb⟩
  obtain ⟨M, hM⟩ : ∃ q, w6.heap.size = q := ⟨_, rfl⟩
  obtain ⟨z6, hz6⟩ : ∃ x, w6.alloc (.cells #[.int .i64 m1, .int .i64 m2] 25) = x := ⟨_, rfl⟩
  have A2 : Below w6.heap.size w6 z6 := by rw [← hz6]; exact bl_alloc (Below.refl _ _) _
  have hb2 := below_step hb A2
  have BE := mkHid (below_step BE.out hb2)
  have HE := mkHid (HE.out.below hb2)
  have FA := mkHid (FA.out.below hb2)
  have FB := mkHid (FB.out.below hb2)
  have FD := mkHid (FD.out.below hb2)
  have IS := mkHid (IS.out.below hb2)
  have FJ := mkHid (FJ.out.below hb2)
  have FM : Hid (Box z6 M m1 m2) := mkHid (by rw [← hz6, ← hM]; exact Box.made _ _ _)
  clear hb hb2 A2 C8
  obtain ⟨k0, k1, _, _⟩ := FA.out
  obtain ⟨k2, k3, _, _⟩ := FB.out
  go_wp2_with fail
  first | rw [hz6] | skip
  first | rw [hM] | skip
  clear k0 k1 k2 k3 hz6 hM
  refine (C9.out _ IS.out).mono ?_
  rintro e w7 ⟨rfl, hb⟩
  obtain ⟨W, hW⟩ : ∃ q, w7.heap.size = q := ⟨_, rfl⟩
  obtain ⟨z7, hz7⟩ : ∃ x, w7.alloc (.cells #[.int .i64 p1, .int .i64 p2] 25) = x := ⟨_, rfl⟩
  have A2 : Below w7.heap.size w7 z7 := by rw [← hz7]; exact bl_alloc (Below.refl _ _) _
  have hb2 := below_step hb A2
  have BE := mkHid (below_step BE.out hb2)
  have HE := mkHid (HE.out.below hb2)
  have FA := mkHid (FA.out.below hb2)
  have FB := mkHid (FB.out.below hb2)
  have FD := mkHid (FD.out.below hb2)
  have IS := mkHid (IS.out.below hb2)
  have FJ := mkHid (FJ.out.below hb2)
  have FM := mkHid (FM.out.below hb2)
  have FW : Hid (Box z7 W p1 p2) := mkHid (by rw [← hz7, ← hW]; exact Box.made _ _ _)
  clear hb hb2 A2 C9
  have hA9 : ∀ v', Below z7.heap.size z7 v' → v'.cell? ⟨A, 0, none⟩ = some (.int .i64 a) ∧ v'.cell? ⟨A, 1, none⟩ = some (.int .i64 b) := fun v' h => ⟨(FA.out.below h).1, (FA.out.below h).2.1⟩
  have hB9 : ∀ v', Below z7.heap.size z7 v' → v'.cell? ⟨A + 1, 0, none⟩ = some (.int .i64 c) ∧ v'.cell? ⟨A + 1, 1, none⟩ = some (.int .i64 d) := fun v' h => ⟨(FB.out.below h).1, (FB.out.below h).2.1⟩
  have hJ9 : ∀ v', Below z7.heap.size z7 v' → v'.cell? ⟨J, 0, none⟩ = some (.int .i64 j1) ∧ v'.cell? ⟨J, 1, none⟩ = some (.int .i64 j2) := fun v' h => ⟨(FJ.out.below h).1, (FJ.out.below h).2.1⟩
  have hM9 : ∀ v', Below z7.heap.size z7 v' → v'.cell? ⟨M, 0, none⟩ = some (.int .i64 m1) ∧ v'.cell? ⟨M, 1, none⟩ = some (.int .i64 m2) := fun v' h => ⟨(FM.out.below h).1, (FM.out.below h).2.1⟩
  have hW9 : ∀ v', Below z7.heap.size z7 v' → v'.cell? ⟨W, 0, none⟩ = some (.int .i64 p1) ∧ v'.cell? ⟨W, 1, none⟩ = some (.int .i64 p2) := fun v' h => ⟨(FW.out.below h).1, (FW.out.below h).2.1⟩
  go_wp2_with fail
  first | rw [hz7] | skip
  first | rw [hW] | skip
  clear hz7 hW
  refine wp_region_inv2 (fun zA0 L zA v9 => ∃ (zB : Nat → Bool) (zS : Nat → Value), L = #[zB 0, zB 1, zB 2, zB 3, zB 4, zB 5, zB 6, zB 7, zB 8, zB 9, zB 10, zB 11, zB 12, zB 13, zB 14, zB 15, zB 16, zB 17, zB 18, zB 19] ∧ zA = pC zA0 42 62 [zS 42, zS 43, zS 44, zS 45, zS 46, zS 47, zS 48, zS 49, zS 50, zS 51, zS 52, zS 53, zS 54, zS 55, zS 56, zS 57, zS 58, zS 59, zS 60, zS 61] ∧ ((zB 0 = true → zS 42 = .agg #[.int .i64 j1, .int .i64 j2]) ∧ (zB 1 = true → zS 43 = .agg #[.int .i64 a, .int .i64 b]) ∧ (zB 2 = true → zS 44 = .agg #[.int .i64 c, .int .i64 d]) ∧ (zB 3 = true → zS 45 = .agg #[.int .i64 j1, .int .i64 j2]) ∧ (zB 4 = true → zS 46 = .bool false) ∧ (zB 5 = true → zS 47 = .bool false) ∧ (zB 6 = true → zS 48 = .agg #[.int .i64 m1, .int .i64 m2]) ∧ (zB 7 = true → zS 49 = .agg #[.int .i64 a, .int .i64 b]) ∧ (zB 8 = true → zS 50 = .agg #[.int .i64 c, .int .i64 d]) ∧ (zB 9 = true → zS 51 = .agg #[.int .i64 m1, .int .i64 m2]) ∧ (zB 10 = true → zS 52 = .bool false) ∧ (zB 11 = true → zS 53 = .bool false) ∧ (zB 12 = true → zS 54 = .bool false) ∧ (zB 13 = true → zS 55 = .agg #[.int .i64 p1, .int .i64 p2]) ∧ (zB 14 = true → zS 56 = .agg #[.int .i64 a, .int .i64 b]) ∧ (zB 15 = true → zS 57 = .agg #[.int .i64 c, .int .i64 d]) ∧ (zB 16 = true → zS 58 = .slice (some ⟨gs, 0, none⟩) st.length cs) ∧ (zB 17 = true → zS 59 = .agg #[.int .i64 p1, .int .i64 p2]) ∧ (zB 18 = true → zS 60 = .bool false) ∧ (zB 19 = true → zS 61 = .bool false)) ∧ Below z7.heap.size z7 v9 ∧ True) (by kernel_rfl) ?_ ?_ ?_
  · exact ⟨fun _ => false, fun _ => undef, rfl, by kernel_rfl, ⟨fun e => ft e, fun e => ft e, fun e => ft e, fun e => ft e, fun e => ft e, fun e => ft e, fun e => ft e, fun e => ft e, fun e => ft e, fun e => ft e, fun e => ft e, fun e => ft e, fun e => ft e, fun e => ft e, fun e => ft e, fun e => ft e, fun e => ft e, fun e => ft e, fun e => ft e, fun e => ft e⟩, ⟨(Below.refl _ _).drew, trivial⟩⟩
  · refine StepsI.cons rfl ?_ ?_
    · rintro L zA v9 ⟨zB, zS, rfl, rfl, hF, hW⟩ hL hm K hK
      have hb0 : zB 0 = false := by simpa using hL
      clear hL hm
      simp only [pCE]
      obtain ⟨k0, k1⟩ := hJ9 _ hW.1
      go_simp
      exact hK.out _ _ ⟨fun zj => if zj = 0 then true else zB zj, fun zd => if zd = 42 then .agg #[.int .i64 j1, .int .i64 j2] else zS zd, rfl, by kernel_rfl, ⟨fun _ => rfl, hF.2.1, hF.2.2.1, hF.2.2.2.1, hF.2.2.2.2.1, hF.2.2.2.2.2.1, hF.2.2.2.2.2.2.1, hF.2.2.2.2.2.2.2.1, hF.2.2.2.2.2.2.2.2.1, hF.2.2.2.2.2.2.2.2.2.1, hF.2.2.2.2.2.2.2.2.2.2.1, hF.2.2.2.2.2.2.2.2.2.2.2.1, hF.2.2.2.2.2.2.2.2.2.2.2.2.1, hF.2.2.2.2.2.2.2.2.2.2.2.2.2.1, hF.2.2.2.2.2.2.2.2.2.2.2.2.2.2.1, hF.2.2.2.2.2.2.2.2.2.2.2.2.2.2.2.1, hF.2.2.2.2.2.2.2.2.2.2.2.2.2.2.2.2.1, hF.2.2.2.2.2.2.2.2.2.2.2.2.2.2.2.2.2.1, hF.2.2.2.2.2.2.2.2.2.2.2.2.2.2.2.2.2.2.1, hF.2.2.2.2.2.2.2.2.2.2.2.2.2.2.2.2.2.2.2⟩, hW⟩
    refine StepsI.cons rfl ?_ ?_
    · rintro L zA v9 ⟨zB, zS, rfl, rfl, hF, hW⟩ hL hm K hK
      have hb1 : zB 1 = false := by simpa using hL
      clear hL hm
      simp only [pCE]
      obtain ⟨k0, k1⟩ := hA9 _ hW.1
      go_simp
      exact hK.out _ _ ⟨fun zj => if zj = 1 then true else zB zj, fun zd => if zd = 43 then .agg #[.int .i64 a, .int .i64 b] else zS zd, rfl, by kernel_rfl, ⟨hF.1, fun _ => rfl, hF.2.2.1, hF.2.2.2.1, hF.2.2.2.2.1, hF.2.2.2.2.2.1, hF.2.2.2.2.2.2.1, hF.2.2.2.2.2.2.2.1, hF.2.2.2.2.2.2.2.2.1, hF.2.2.2.2.2.2.2.2.2.1, hF.2.2.2.2.2.2.2.2.2.2.1, hF.2.2.2.2.2.2.2.2.2.2.2.1, hF.2.2.2.2.2.2.2.2.2.2.2.2.1, hF.2.2.2.2.2.2.2.2.2.2.2.2.2.1, hF.2.2.2.2.2.2.2.2.2.2.2.2.2.2.1, hF.2.2.2.2.2.2.2.2.2.2.2.2.2.2.2.1, hF.2.2.2.2.2.2.2.2.2.2.2.2.2.2.2.2.1, hF.2.2.2.2.2.2.2.2.2.2.2.2.2.2.2.2.2.1, hF.2.2.2.2.2.2.2.2.2.2.2.2.2.2.2.2.2.2.1, hF.2.2.2.2.2.2.2.2.2.2.2.2.2.2.2.2.2.2.2⟩, hW⟩
    refine StepsI.cons rfl ?_ ?_
    · rintro L zA v9 ⟨zB, zS, rfl, rfl, hF, hW⟩ hL hm K hK
      have hb2 : zB 2 = false := by simpa using hL
      clear hL hm
      simp only [pCE]
      obtain ⟨k0, k1⟩ := hB9 _ hW.1
      go_simp
      exact hK.out _ _ ⟨fun zj => if zj = 2 then true else zB zj, fun zd => if zd = 44 then .agg #[.int .i64 c, .int .i64 d] else zS zd, rfl, by kernel_rfl, ⟨hF.1, hF.2.1, fun _ => rfl, hF.2.2.2.1, hF.2.2.2.2.1, hF.2.2.2.2.2.1, hF.2.2.2.2.2.2.1, hF.2.2.2.2.2.2.2.1, hF.2.2.2.2.2.2.2.2.1, hF.2.2.2.2.2.2.2.2.2.1, hF.2.2.2.2.2.2.2.2.2.2.1, hF.2.2.2.2.2.2.2.2.2.2.2.1, hF.2.2.2.2.2.2.2.2.2.2.2.2.1, hF.2.2.2.2.2.2.2.2.2.2.2.2.2.1, hF.2.2.2.2.2.2.2.2.2.2.2.2.2.2.1, hF.2.2.2.2.2.2.2.2.2.2.2.2.2.2.2.1, hF.2.2.2.2.2.2.2.2.2.2.2.2.2.2.2.2.1, hF.2.2.2.2.2.2.2.2.2.2.2.2.2.2.2.2.2.1, hF.2.2.2.2.2.2.2.2.2.2.2.2.2.2.2.2.2.2.1, hF.2.2.2.2.2.2.2.2.2.2.2.2.2.2.2.2.2.2.2⟩, hW⟩
    refine StepsI.cons rfl ?_ ?_
    · rintro L zA v9 ⟨zB, zS, rfl, rfl, hF, hW⟩ hL hm K hK
      have hb3 : zB 3 = false := by simpa using hL
      have hb1 : zB 1 = true := by cases e : zB 1 with | false => (exfalso; revert hm; simp [metB, Region.binds, e]) | true => rfl
      have hb2 : zB 2 = true := by cases e : zB 2 with | false => (exfalso; revert hm; simp [metB, Region.binds, e]) | true => rfl
      have e1 : zS 43 = .agg #[.int .i64 a, .int .i64 b] := hF.2.1 hb1
      have e2 : zS 44 = .agg #[.int .i64 c, .int .i64 d] := hF.2.2.1 hb2
      clear hL hm
      simp only [pCE]
      simp only [e1, e2]
      go_simp
      refine (C10.out _).mono ?_
      rintro e v92 ⟨rfl, hb⟩
      go_wp2_with fail
      exact hK.out _ _ ⟨fun zj => if zj = 2 then true else if zj = 1 then true else if zj = 3 then true else zB zj, fun zd => if zd = 45 then .agg #[.int .i64 j1, .int .i64 j2] else if zd = 44 then .agg #[.int .i64 c, .int .i64 d] else if zd = 43 then .agg #[.int .i64 a, .int .i64 b] else zS zd, by simp [hb1, hb2], by kernel_rfl, ⟨hF.1, fun _ => rfl, fun _ => rfl, fun _ => rfl, hF.2.2.2.2.1, hF.2.2.2.2.2.1, hF.2.2.2.2.2.2.1, hF.2.2.2.2.2.2.2.1, hF.2.2.2.2.2.2.2.2.1, hF.2.2.2.2.2.2.2.2.2.1, hF.2.2.2.2.2.2.2.2.2.2.1, hF.2.2.2.2.2.2.2.2.2.2.2.1, hF.2.2.2.2.2.2.2.2.2.2.2.2.1, hF.2.2.2.2.2.2.2.2.2.2.2.2.2.1, hF.2.2.2.2.2.2.2.2.2.2.2.2.2.2.1, hF.2.2.2.2.2.2.2.2.2.2.2.2.2.2.2.1, hF.2.2.2.2.2.2.2.2.2.2.2.2.2.2.2.2.1, hF.2.2.2.2.2.2.2.2.2.2.2.2.2.2.2.2.2.1, hF.2.2.2.2.2.2.2.2.2.2.2.2.2.2.2.2.2.2.1, hF.2.2.2.2.2.2.2.2.2.2.2.2.2.2.2.2.2.2.2⟩, ⟨below_step hW.1 hb, trivial⟩⟩
    refine StepsI.cons rfl ?_ ?_
    · rintro L zA v9 ⟨zB, zS, rfl, rfl, hF, hW⟩ hL hm K hK
      have hb4 : zB 4 = false := by simpa using hL
      have hb0 : zB 0 = true := by cases e : zB 0 with | false => (exfalso; revert hm; simp [metB, Region.binds, e]) | true => rfl
      have hb3 : zB 3 = true := by cases e : zB 3 with | false => (exfalso; revert hm; simp [metB, Region.binds, e]) | true => rfl
      have e0 : zS 42 = .agg #[.int .i64 j1, .int .i64 j2] := hF.1 hb0
      have e3 : zS 45 = .agg #[.int .i64 j1, .int .i64 j2] := hF.2.2.2.1 hb3
      clear hL hm
      simp only [pCE]
      simp only [e0, e3]
      have hNQ := neq_rng
      have hq9 := eqB_self j1 j2
      go_simp
      exact hK.out _ _ ⟨fun zj => if zj = 3 then true else if zj = 0 then true else if zj = 4 then true else zB zj, fun zd => if zd = 46 then .bool false else if zd = 45 then .agg #[.int .i64 j1, .int .i64 j2] else if zd = 42 then .agg #[.int .i64 j1, .int .i64 j2] else zS zd, by simp [hb0, hb3], by kernel_rfl, ⟨fun _ => rfl, hF.2.1, hF.2.2.1, fun _ => rfl, fun _ => rfl, hF.2.2.2.2.2.1, hF.2.2.2.2.2.2.1, hF.2.2.2.2.2.2.2.1, hF.2.2.2.2.2.2.2.2.1, hF.2.2.2.2.2.2.2.2.2.1, hF.2.2.2.2.2.2.2.2.2.2.1, hF.2.2.2.2.2.2.2.2.2.2.2.1, hF.2.2.2.2.2.2.2.2.2.2.2.2.1, hF.2.2.2.2.2.2.2.2.2.2.2.2.2.1, hF.2.2.2.2.2.2.2.2.2.2.2.2.2.2.1, hF.2.2.2.2.2.2.2.2.2.2.2.2.2.2.2.1, hF.2.2.2.2.2.2.2.2.2.2.2.2.2.2.2.2.1, hF.2.2.2.2.2.2.2.2.2.2.2.2.2.2.2.2.2.1, hF.2.2.2.2.2.2.2.2.2.2.2.2.2.2.2.2.2.2.1, hF.2.2.2.2.2.2.2.2.2.2.2.2.2.2.2.2.2.2.2⟩, hW⟩
    refine StepsI.cons rfl ?_ ?_
    · rintro L zA v9 ⟨zB, zS, rfl, rfl, hF, hW⟩ hL hm K hK
      have hb5 : zB 5 = false := by simpa using hL
      have hb4 : zB 4 = true := by cases e : zB 4 with | false => (exfalso; revert hm; simp [metB, Region.binds, e]) | true => rfl
      have e4 : zS 46 = .bool false := hF.2.2.2.2.1 hb4
      clear hL hm
      simp only [pCE]
      simp only [e4]
      go_simp
      exact hK.out _ _ ⟨fun zj => if zj = 4 then true else if zj = 5 then true else zB zj, fun zd => if zd = 47 then .bool false else if zd = 46 then .bool false else zS zd, by simp [hb4], by kernel_rfl, ⟨hF.1, hF.2.1, hF.2.2.1, hF.2.2.2.1, fun _ => rfl, fun _ => rfl, hF.2.2.2.2.2.2.1, hF.2.2.2.2.2.2.2.1, hF.2.2.2.2.2.2.2.2.1, hF.2.2.2.2.2.2.2.2.2.1, hF.2.2.2.2.2.2.2.2.2.2.1, hF.2.2.2.2.2.2.2.2.2.2.2.1, hF.2.2.2.2.2.2.2.2.2.2.2.2.1, hF.2.2.2.2.2.2.2.2.2.2.2.2.2.1, hF.2.2.2.2.2.2.2.2.2.2.2.2.2.2.1, hF.2.2.2.2.2.2.2.2.2.2.2.2.2.2.2.1, hF.2.2.2.2.2.2.2.2.2.2.2.2.2.2.2.2.1, hF.2.2.2.2.2.2.2.2.2.2.2.2.2.2.2.2.2.1, hF.2.2.2.2.2.2.2.2.2.2.2.2.2.2.2.2.2.2.1, hF.2.2.2.2.2.2.2.2.2.2.2.2.2.2.2.2.2.2.2⟩, hW⟩
    refine StepsI.cons rfl ?_ ?_
    · rintro L zA v9 ⟨zB, zS, rfl, rfl, hF, hW⟩ hL hm K hK
      have hb6 : zB 6 = false := by simpa using hL
      have hb5 : zB 5 = true := by cases e : zB 5 with | false => (exfalso; revert hm; simp [metB, Region.binds, e]) | true => rfl
      have e5 : zS 47 = .bool false := hF.2.2.2.2.2.1 hb5
      clear hL hm
      simp only [pCE]
      simp only [e5]
      obtain ⟨k0, k1⟩ := hM9 _ hW.1
      go_simp
      exact hK.out _ _ ⟨fun zj => if zj = 5 then true else if zj = 6 then true else zB zj, fun zd => if zd = 48 then .agg #[.int .i64 m1, .int .i64 m2] else if zd = 47 then .bool false else zS zd, by simp [hb5], by kernel_rfl, ⟨hF.1, hF.2.1, hF.2.2.1, hF.2.2.2.1, hF.2.2.2.2.1, fun _ => rfl, fun _ => rfl, hF.2.2.2.2.2.2.2.1, hF.2.2.2.2.2.2.2.2.1, hF.2.2.2.2.2.2.2.2.2.1, hF.2.2.2.2.2.2.2.2.2.2.1, hF.2.2.2.2.2.2.2.2.2.2.2.1, hF.2.2.2.2.2.2.2.2.2.2.2.2.1, hF.2.2.2.2.2.2.2.2.2.2.2.2.2.1, hF.2.2.2.2.2.2.2.2.2.2.2.2.2.2.1, hF.2.2.2.2.2.2.2.2.2.2.2.2.2.2.2.1, hF.2.2.2.2.2.2.2.2.2.2.2.2.2.2.2.2.1, hF.2.2.2.2.2.2.2.2.2.2.2.2.2.2.2.2.2.1, hF.2.2.2.2.2.2.2.2.2.2.2.2.2.2.2.2.2.2.1, hF.2.2.2.2.2.2.2.2.2.2.2.2.2.2.2.2.2.2.2⟩, hW⟩
    refine StepsI.cons rfl ?_ ?_
    · rintro L zA v9 ⟨zB, zS, rfl, rfl, hF, hW⟩ hL hm K hK
      have hb7 : zB 7 = false := by simpa using hL
      have hb5 : zB 5 = true := by cases e : zB 5 with | false => (exfalso; revert hm; simp [metB, Region.binds, e]) | true => rfl
      have e5 : zS 47 = .bool false := hF.2.2.2.2.2.1 hb5
      clear hL hm
      simp only [pCE]
      simp only [e5]
      obtain ⟨k0, k1⟩ := hA9 _ hW.1
      go_simp
      exact hK.out _ _ ⟨fun zj => if zj = 5 then true else if zj = 7 then true else zB zj, fun zd => if zd = 49 then .agg #[.int .i64 a, .int .i64 b] else if zd = 47 then .bool false else zS zd, by simp [hb5], by kernel_rfl, ⟨hF.1, hF.2.1, hF.2.2.1, hF.2.2.2.1, hF.2.2.2.2.1, fun _ => rfl, hF.2.2.2.2.2.2.1, fun _ => rfl, hF.2.2.2.2.2.2.2.2.1, hF.2.2.2.2.2.2.2.2.2.1, hF.2.2.2.2.2.2.2.2.2.2.1, hF.2.2.2.2.2.2.2.2.2.2.2.1, hF.2.2.2.2.2.2.2.2.2.2.2.2.1, hF.2.2.2.2.2.2.2.2.2.2.2.2.2.1, hF.2.2.2.2.2.2.2.2.2.2.2.2.2.2.1, hF.2.2.2.2.2.2.2.2.2.2.2.2.2.2.2.1, hF.2.2.2.2.2.2.2.2.2.2.2.2.2.2.2.2.1, hF.2.2.2.2.2.2.2.2.2.2.2.2.2.2.2.2.2.1, hF.2.2.2.2.2.2.2.2.2.2.2.2.2.2.2.2.2.2.1, hF.2.2.2.2.2.2.2.2.2.2.2.2.2.2.2.2.2.2.2⟩, hW⟩
    refine StepsI.cons rfl ?_ ?_
    · rintro L zA v9 ⟨zB, zS, rfl, rfl, hF, hW⟩ hL hm K hK
      have hb8 : zB 8 = false := by simpa using hL
      have hb5 : zB 5 = true := by cases e : zB 5 with | false => (exfalso; revert hm; simp [metB, Region.binds, e]) | true => rfl
      have e5 : zS 47 = .bool false := hF.2.2.2.2.2.1 hb5
      clear hL hm
      simp only [pCE]
      simp only [e5]
      obtain ⟨k0, k1⟩ := hB9 _ hW.1
      go_simp
      exact hK.out _ _ ⟨fun zj => if zj = 5 then true else if zj = 8 then true else zB zj, fun zd => if zd = 50 then .agg #[.int .i64 c, .int .i64 d] else if zd = 47 then .bool false else zS zd, by simp [hb5], by kernel_rfl, ⟨hF.1, hF.2.1, hF.2.2.1, hF.2.2.2.1, hF.2.2.2.2.1, fun _ => rfl, hF.2.2.2.2.2.2.1, hF.2.2.2.2.2.2.2.1, fun _ => rfl, hF.2.2.2.2.2.2.2.2.2.1, hF.2.2.2.2.2.2.2.2.2.2.1, hF.2.2.2.2.2.2.2.2.2.2.2.1, hF.2.2.2.2.2.2.2.2.2.2.2.2.1, hF.2.2.2.2.2.2.2.2.2.2.2.2.2.1, hF.2.2.2.2.2.2.2.2.2.2.2.2.2.2.1, hF.2.2.2.2.2.2.2.2.2.2.2.2.2.2.2.1, hF.2.2.2.2.2.2.2.2.2.2.2.2.2.2.2.2.1, hF.2.2.2.2.2.2.2.2.2.2.2.2.2.2.2.2.2.1, hF.2.2.2.2.2.2.2.2.2.2.2.2.2.2.2.2.2.2.1, hF.2.2.2.2.2.2.2.2.2.2.2.2.2.2.2.2.2.2.2⟩, hW⟩
    refine StepsI.cons rfl ?_ ?_
    · rintro L zA v9 ⟨zB, zS, rfl, rfl, hF, hW⟩ hL hm K hK
      have hb9 : zB 9 = false := by simpa using hL
      have hb5 : zB 5 = true := by cases e : zB 5 with | false => (exfalso; revert hm; simp [metB, Region.binds, e]) | true => rfl
      have hb7 : zB 7 = true := by cases e : zB 7 with | false => (exfalso; revert hm; simp [metB, Region.binds, e]) | true => rfl
      have hb8 : zB 8 = true := by cases e : zB 8 with | false => (exfalso; revert hm; simp [metB, Region.binds, e]) | true => rfl
      have e5 : zS 47 = .bool false := hF.2.2.2.2.2.1 hb5
      have e7 : zS 49 = .agg #[.int .i64 a, .int .i64 b] := hF.2.2.2.2.2.2.2.1 hb7
      have e8 : zS 50 = .agg #[.int .i64 c, .int .i64 d] := hF.2.2.2.2.2.2.2.2.1 hb8
      clear hL hm
      simp only [pCE]
      simp only [e5, e7, e8]
      go_simp
      refine (C11.out _).mono ?_
      rintro e v92 ⟨rfl, hb⟩
      go_wp2_with fail
      exact hK.out _ _ ⟨fun zj => if zj = 8 then true else if zj = 7 then true else if zj = 5 then true else if zj = 9 then true else zB zj, fun zd => if zd = 51 then .agg #[.int .i64 m1, .int .i64 m2] else if zd = 50 then .agg #[.int .i64 c, .int .i64 d] else if zd = 49 then .agg #[.int .i64 a, .int .i64 b] else if zd = 47 then .bool false else zS zd, by simp [hb5, hb7, hb8], by kernel_rfl, ⟨hF.1, hF.2.1, hF.2.2.1, hF.2.2.2.1, hF.2.2.2.2.1, fun _ => rfl, hF.2.2.2.2.2.2.1, fun _ => rfl, fun _ => rfl, fun _ => rfl, hF.2.2.2.2.2.2.2.2.2.2.1, hF.2.2.2.2.2.2.2.2.2.2.2.1, hF.2.2.2.2.2.2.2.2.2.2.2.2.1, hF.2.2.2.2.2.2.2.2.2.2.2.2.2.1, hF.2.2.2.2.2.2.2.2.2.2.2.2.2.2.1, hF.2.2.2.2.2.2.2.2.2.2.2.2.2.2.2.1, hF.2.2.2.2.2.2.2.2.2.2.2.2.2.2.2.2.1, hF.2.2.2.2.2.2.2.2.2.2.2.2.2.2.2.2.2.1, hF.2.2.2.2.2.2.2.2.2.2.2.2.2.2.2.2.2.2.1, hF.2.2.2.2.2.2.2.2.2.2.2.2.2.2.2.2.2.2.2⟩, ⟨below_step hW.1 hb, trivial⟩⟩
    refine StepsI.cons rfl ?_ ?_
    · rintro L zA v9 ⟨zB, zS, rfl, rfl, hF, hW⟩ hL hm K hK
      have hb10 : zB 10 = false := by simpa using hL
      have hb5 : zB 5 = true := by cases e : zB 5 with | false => (exfalso; revert hm; simp [metB, Region.binds, e]) | true => rfl
      have hb6 : zB 6 = true := by cases e : zB 6 with | false => (exfalso; revert hm; simp [metB, Region.binds, e]) | true => rfl
      have hb9 : zB 9 = true := by cases e : zB 9 with | false => (exfalso; revert hm; simp [metB, Region.binds, e]) | true => rfl
      have e5 : zS 47 = .bool false := hF.2.2.2.2.2.1 hb5
      have e6 : zS 48 = .agg #[.int .i64 m1, .int .i64 m2] := hF.2.2.2.2.2.2.1 hb6
      have e9 : zS 51 = .agg #[.int .i64 m1, .int .i64 m2] := hF.2.2.2.2.2.2.2.2.2.1 hb9
      clear hL hm
      simp only [pCE]
      simp only [e5, e6, e9]
      have hNQ := neq_rng
      have hq9 := eqB_self m1 m2
      go_simp
      exact hK.out _ _ ⟨fun zj => if zj = 9 then true else if zj = 6 then true else if zj = 5 then true else if zj = 10 then true else zB zj, fun zd => if zd = 52 then .bool false else if zd = 51 then .agg #[.int .i64 m1, .int .i64 m2] else if zd = 48 then .agg #[.int .i64 m1, .int .i64 m2] else if zd = 47 then .bool false else zS zd, by simp [hb5, hb6, hb9], by kernel_rfl, ⟨hF.1, hF.2.1, hF.2.2.1, hF.2.2.2.1, hF.2.2.2.2.1, fun _ => rfl, fun _ => rfl, hF.2.2.2.2.2.2.2.1, hF.2.2.2.2.2.2.2.2.1, fun _ => rfl, fun _ => rfl, hF.2.2.2.2.2.2.2.2.2.2.2.1, hF.2.2.2.2.2.2.2.2.2.2.2.2.1, hF.2.2.2.2.2.2.2.2.2.2.2.2.2.1, hF.2.2.2.2.2.2.2.2.2.2.2.2.2.2.1, hF.2.2.2.2.2.2.2.2.2.2.2.2.2.2.2.1, hF.2.2.2.2.2.2.2.2.2.2.2.2.2.2.2.2.1, hF.2.2.2.2.2.2.2.2.2.2.2.2.2.2.2.2.2.1, hF.2.2.2.2.2.2.2.2.2.2.2.2.2.2.2.2.2.2.1, hF.2.2.2.2.2.2.2.2.2.2.2.2.2.2.2.2.2.2.2⟩, hW⟩
    refine StepsI.cons rfl ?_ ?_
    · rintro L zA v9 ⟨zB, zS, rfl, rfl, hF, hW⟩ hL hm K hK
      have hb11 : zB 11 = false := by simpa using hL
      have hb5 : zB 5 = true := by cases e : zB 5 with | false => (exfalso; revert hm; simp [metB, Region.binds, e]) | true => rfl
      have hb10 : zB 10 = true := by cases e : zB 10 with | false => (exfalso; revert hm; simp [metB, Region.binds, e]) | true => rfl
      have e5 : zS 47 = .bool false := hF.2.2.2.2.2.1 hb5
      have e10 : zS 52 = .bool false := hF.2.2.2.2.2.2.2.2.2.2.1 hb10
      clear hL hm
      simp only [pCE]
      simp only [e5, e10]
      go_simp
      exact hK.out _ _ ⟨fun zj => if zj = 10 then true else if zj = 5 then true else if zj = 11 then true else zB zj, fun zd => if zd = 53 then .bool false else if zd = 52 then .bool false else if zd = 47 then .bool false else zS zd, by simp [hb5, hb10], by kernel_rfl, ⟨hF.1, hF.2.1, hF.2.2.1, hF.2.2.2.1, hF.2.2.2.2.1, fun _ => rfl, hF.2.2.2.2.2.2.1, hF.2.2.2.2.2.2.2.1, hF.2.2.2.2.2.2.2.2.1, hF.2.2.2.2.2.2.2.2.2.1, fun _ => rfl, fun _ => rfl, hF.2.2.2.2.2.2.2.2.2.2.2.2.1, hF.2.2.2.2.2.2.2.2.2.2.2.2.2.1, hF.2.2.2.2.2.2.2.2.2.2.2.2.2.2.1, hF.2.2.2.2.2.2.2.2.2.2.2.2.2.2.2.1, hF.2.2.2.2.2.2.2.2.2.2.2.2.2.2.2.2.1, hF.2.2.2.2.2.2.2.2.2.2.2.2.2.2.2.2.2.1, hF.2.2.2.2.2.2.2.2.2.2.2.2.2.2.2.2.2.2.1, hF.2.2.2.2.2.2.2.2.2.2.2.2.2.2.2.2.2.2.2⟩, hW⟩
    refine StepsI.cons rfl ?_ ?_
    · rintro L zA v9 ⟨zB, zS, rfl, rfl, hF, hW⟩ hL hm K hK
      have hb12 : zB 12 = false := by simpa using hL
      have hb11 : zB 11 = true := by cases e : zB 11 with | false => (exfalso; revert hm; simp [metB, Region.binds, e]) | true => rfl
      have e11 : zS 53 = .bool false := hF.2.2.2.2.2.2.2.2.2.2.2.1 hb11
      clear hL hm
      simp only [pCE]
      simp only [e11]
      go_simp
      exact hK.out _ _ ⟨fun zj => if zj = 11 then true else if zj = 12 then true else zB zj, fun zd => if zd = 54 then .bool false else if zd = 53 then .bool false else zS zd, by simp [hb11], by kernel_rfl, ⟨hF.1, hF.2.1, hF.2.2.1, hF.2.2.2.1, hF.2.2.2.2.1, hF.2.2.2.2.2.1, hF.2.2.2.2.2.2.1, hF.2.2.2.2.2.2.2.1, hF.2.2.2.2.2.2.2.2.1, hF.2.2.2.2.2.2.2.2.2.1, hF.2.2.2.2.2.2.2.2.2.2.1, fun _ => rfl, fun _ => rfl, hF.2.2.2.2.2.2.2.2.2.2.2.2.2.1, hF.2.2.2.2.2.2.2.2.2.2.2.2.2.2.1, hF.2.2.2.2.2.2.2.2.2.2.2.2.2.2.2.1, hF.2.2.2.2.2.2.2.2.2.2.2.2.2.2.2.2.1, hF.2.2.2.2.2.2.2.2.2.2.2.2.2.2.2.2.2.1, hF.2.2.2.2.2.2.2.2.2.2.2.2.2.2.2.2.2.2.1, hF.2.2.2.2.2.2.2.2.2.2.2.2.2.2.2.2.2.2.2⟩, hW⟩
    refine StepsI.cons rfl ?_ ?_
    · rintro L zA v9 ⟨zB, zS, rfl, rfl, hF, hW⟩ hL hm K hK
      have hb13 : zB 13 = false := by simpa using hL
      have hb12 : zB 12 = true := by cases e : zB 12 with | false => (exfalso; revert hm; simp [metB, Region.binds, e]) | true => rfl
      have e12 : zS 54 = .bool false := hF.2.2.2.2.2.2.2.2.2.2.2.2.1 hb12
      clear hL hm
      simp only [pCE]
      simp only [e12]
      obtain ⟨k0, k1⟩ := hW9 _ hW.1
      go_simp
      exact hK.out _ _ ⟨fun zj => if zj = 12 then true else if zj = 13 then true else zB zj, fun zd => if zd = 55 then .agg #[.int .i64 p1, .int .i64 p2] else if zd = 54 then .bool false else zS zd, by simp [hb12], by kernel_rfl, ⟨hF.1, hF.2.1, hF.2.2.1, hF.2.2.2.1, hF.2.2.2.2.1, hF.2.2.2.2.2.1, hF.2.2.2.2.2.2.1, hF.2.2.2.2.2.2.2.1, hF.2.2.2.2.2.2.2.2.1, hF.2.2.2.2.2.2.2.2.2.1, hF.2.2.2.2.2.2.2.2.2.2.1, hF.2.2.2.2.2.2.2.2.2.2.2.1, fun _ => rfl, fun _ => rfl, hF.2.2.2.2.2.2.2.2.2.2.2.2.2.2.1, hF.2.2.2.2.2.2.2.2.2.2.2.2.2.2.2.1, hF.2.2.2.2.2.2.2.2.2.2.2.2.2.2.2.2.1, hF.2.2.2.2.2.2.2.2.2.2.2.2.2.2.2.2.2.1, hF.2.2.2.2.2.2.2.2.2.2.2.2.2.2.2.2.2.2.1, hF.2.2.2.2.2.2.2.2.2.2.2.2.2.2.2.2.2.2.2⟩, hW⟩
    refine StepsI.cons rfl ?_ ?_
    · rintro L zA v9 ⟨zB, zS, rfl, rfl, hF, hW⟩ hL hm K hK
      have hb14 : zB 14 = false := by simpa using hL
      have hb12 : zB 12 = true := by cases e : zB 12 with | false => (exfalso; revert hm; simp [metB, Region.binds, e]) | true => rfl
      have e12 : zS 54 = .bool false := hF.2.2.2.2.2.2.2.2.2.2.2.2.1 hb12
      clear hL hm
      simp only [pCE]
      simp only [e12]
      obtain ⟨k0, k1⟩ := hA9 _ hW.1
      go_simp
      exact hK.out _ _ ⟨fun zj => if zj = 12 then true else if zj = 14 then true else zB zj, fun zd => if zd = 56 then .agg #[.int .i64 a, .int .i64 b] else if zd = 54 then .bool false else zS zd, by simp [hb12], by kernel_rfl, ⟨hF.1, hF.2.1, hF.2.2.1, hF.2.2.2.1, hF.2.2.2.2.1, hF.2.2.2.2.2.1, hF.2.2.2.2.2.2.1, hF.2.2.2.2.2.2.2.1, hF.2.2.2.2.2.2.2.2.1, hF.2.2.2.2.2.2.2.2.2.1, hF.2.2.2.2.2.2.2.2.2.2.1, hF.2.2.2.2.2.2.2.2.2.2.2.1, fun _ => rfl, hF.2.2.2.2.2.2.2.2.2.2.2.2.2.1, fun _ => rfl, hF.2.2.2.2.2.2.2.2.2.2.2.2.2.2.2.1, hF.2.2.2.2.2.2.2.2.2.2.2.2.2.2.2.2.1, hF.2.2.2.2.2.2.2.2.2.2.2.2.2.2.2.2.2.1, hF.2.2.2.2.2.2.2.2.2.2.2.2.2.2.2.2.2.2.1, hF.2.2.2.2.2.2.2.2.2.2.2.2.2.2.2.2.2.2.2⟩, hW⟩
    refine StepsI.cons rfl ?_ ?_
    · rintro L zA v9 ⟨zB, zS, rfl, rfl, hF, hW⟩ hL hm K hK
      have hb15 : zB 15 = false := by simpa using hL
      have hb12 : zB 12 = true := by cases e : zB 12 with | false => (exfalso; revert hm; simp [metB, Region.binds, e]) | true => rfl
      have e12 : zS 54 = .bool false := hF.2.2.2.2.2.2.2.2.2.2.2.2.1 hb12
      clear hL hm
      simp only [pCE]
      simp only [e12]
      obtain ⟨k0, k1⟩ := hB9 _ hW.1
      go_simp
      exact hK.out _ _ ⟨fun zj => if zj = 12 then true else if zj = 15 then true else zB zj, fun zd => if zd = 57 then .agg #[.int .i64 c, .int .i64 d] else if zd = 54 then .bool false else zS zd, by simp [hb12], by kernel_rfl, ⟨hF.1, hF.2.1, hF.2.2.1, hF.2.2.2.1, hF.2.2.2.2.1, hF.2.2.2.2.2.1, hF.2.2.2.2.2.2.1, hF.2.2.2.2.2.2.2.1, hF.2.2.2.2.2.2.2.2.1, hF.2.2.2.2.2.2.2.2.2.1, hF.2.2.2.2.2.2.2.2.2.2.1, hF.2.2.2.2.2.2.2.2.2.2.2.1, fun _ => rfl, hF.2.2.2.2.2.2.2.2.2.2.2.2.2.1, hF.2.2.2.2.2.2.2.2.2.2.2.2.2.2.1, fun _ => rfl, hF.2.2.2.2.2.2.2.2.2.2.2.2.2.2.2.2.1, hF.2.2.2.2.2.2.2.2.2.2.2.2.2.2.2.2.2.1, hF.2.2.2.2.2.2.2.2.2.2.2.2.2.2.2.2.2.2.1, hF.2.2.2.2.2.2.2.2.2.2.2.2.2.2.2.2.2.2.2⟩, hW⟩
    refine StepsI.cons rfl ?_ ?_
    · rintro L zA v9 ⟨zB, zS, rfl, rfl, hF, hW⟩ hL hm K hK
      have hb16 : zB 16 = false := by simpa using hL
      have hb12 : zB 12 = true := by cases e : zB 12 with | false => (exfalso; revert hm; simp [metB, Region.binds, e]) | true => rfl
      have e12 : zS 54 = .bool false := hF.2.2.2.2.2.2.2.2.2.2.2.2.1 hb12
      clear hL hm
      simp only [pCE]
      simp only [e12]
      go_simp
      exact hK.out _ _ ⟨fun zj => if zj = 12 then true else if zj = 16 then true else zB zj, fun zd => if zd = 58 then .slice (some ⟨gs, 0, none⟩) st.length cs else if zd = 54 then .bool false else zS zd, by simp [hb12], by kernel_rfl, ⟨hF.1, hF.2.1, hF.2.2.1, hF.2.2.2.1, hF.2.2.2.2.1, hF.2.2.2.2.2.1, hF.2.2.2.2.2.2.1, hF.2.2.2.2.2.2.2.1, hF.2.2.2.2.2.2.2.2.1, hF.2.2.2.2.2.2.2.2.2.1, hF.2.2.2.2.2.2.2.2.2.2.1, hF.2.2.2.2.2.2.2.2.2.2.2.1, fun _ => rfl, hF.2.2.2.2.2.2.2.2.2.2.2.2.2.1, hF.2.2.2.2.2.2.2.2.2.2.2.2.2.2.1, hF.2.2.2.2.2.2.2.2.2.2.2.2.2.2.2.1, fun _ => rfl, hF.2.2.2.2.2.2.2.2.2.2.2.2.2.2.2.2.2.1, hF.2.2.2.2.2.2.2.2.2.2.2.2.2.2.2.2.2.2.1, hF.2.2.2.2.2.2.2.2.2.2.2.2.2.2.2.2.2.2.2⟩, hW⟩
    refine StepsI.cons rfl ?_ ?_
    · rintro L zA v9 ⟨zB, zS, rfl, rfl, hF, hW⟩ hL hm K hK
      have hb17 : zB 17 = false := by simpa using hL
      have hb12 : zB 12 = true := by cases e : zB 12 with | false => (exfalso; revert hm; simp [metB, Region.binds, e]) | true => rfl
      have hb14 : zB 14 = true := by cases e : zB 14 with | false => (exfalso; revert hm; simp [metB, Region.binds, e]) | true => rfl
      have hb15 : zB 15 = true := by cases e : zB 15 with | false => (exfalso; revert hm; simp [metB, Region.binds, e]) | true => rfl
      have hb16 : zB 16 = true := by cases e : zB 16 with | false => (exfalso; revert hm; simp [metB, Region.binds, e]) | true => rfl
      have e12 : zS 54 = .bool false := hF.2.2.2.2.2.2.2.2.2.2.2.2.1 hb12
      have e14 : zS 56 = .agg #[.int .i64 a, .int .i64 b] := hF.2.2.2.2.2.2.2.2.2.2.2.2.2.2.1 hb14
      have e15 : zS 57 = .agg #[.int .i64 c, .int .i64 d] := hF.2.2.2.2.2.2.2.2.2.2.2.2.2.2.2.1 hb15
      have e16 : zS 58 = .slice (some ⟨gs, 0, none⟩) st.length cs := hF.2.2.2.2.2.2.2.2.2.2.2.2.2.2.2.2.1 hb16
      clear hL hm
      simp only [pCE]
      simp only [e12, e14, e15, e16]
      go_simp
      refine (C12.out _ (IS.out.below hW.1)).mono ?_
      rintro e v92 ⟨rfl, hb⟩
      go_wp2_with fail
      exact hK.out _ _ ⟨fun zj => if zj = 16 then true else if zj = 15 then true else if zj = 14 then true else if zj = 12 then true else if zj = 17 then true else zB zj, fun zd => if zd = 59 then .agg #[.int .i64 p1, .int .i64 p2] else if zd = 58 then .slice (some ⟨gs, 0, none⟩) st.length cs else if zd = 57 then .agg #[.int .i64 c, .int .i64 d] else if zd = 56 then .agg #[.int .i64 a, .int .i64 b] else if zd = 54 then .bool false else zS zd, by simp [hb12, hb14, hb15, hb16], by kernel_rfl, ⟨hF.1, hF.2.1, hF.2.2.1, hF.2.2.2.1, hF.2.2.2.2.1, hF.2.2.2.2.2.1, hF.2.2.2.2.2.2.1, hF.2.2.2.2.2.2.2.1, hF.2.2.2.2.2.2.2.2.1, hF.2.2.2.2.2.2.2.2.2.1, hF.2.2.2.2.2.2.2.2.2.2.1, hF.2.2.2.2.2.2.2.2.2.2.2.1, fun _ => rfl, hF.2.2.2.2.2.2.2.2.2.2.2.2.2.1, fun _ => rfl, fun _ => rfl, fun _ => rfl, fun _ => rfl, hF.2.2.2.2.2.2.2.2.2.2.2.2.2.2.2.2.2.2.1, hF.2.2.2.2.2.2.2.2.2.2.2.2.2.2.2.2.2.2.2⟩, ⟨below_step hW.1 hb, trivial⟩⟩
    refine StepsI.cons rfl ?_ ?_
    · rintro L zA v9 ⟨zB, zS, rfl, rfl, hF, hW⟩ hL hm K hK
      have hb18 : zB 18 = false := by simpa using hL
      have hb12 : zB 12 = true := by cases e : zB 12 with | false => (exfalso; revert hm; simp [metB, Region.binds, e]) | true => rfl
      have hb13 : zB 13 = true := by cases e : zB 13 with | false => (exfalso; revert hm; simp [metB, Region.binds, e]) | true => rfl
      have hb17 : zB 17 = true := by cases e : zB 17 with | false => (exfalso; revert hm; simp [metB, Region.binds, e]) | true => rfl
      have e12 : zS 54 = .bool false := hF.2.2.2.2.2.2.2.2.2.2.2.2.1 hb12
      have e13 : zS 55 = .agg #[.int .i64 p1, .int .i64 p2] := hF.2.2.2.2.2.2.2.2.2.2.2.2.2.1 hb13
      have e17 : zS 59 = .agg #[.int .i64 p1, .int .i64 p2] := hF.2.2.2.2.2.2.2.2.2.2.2.2.2.2.2.2.2.1 hb17
      clear hL hm
      simp only [pCE]
      simp only [e12, e13, e17]
      have hNQ := neq_rng
      have hq9 := eqB_self p1 p2
      go_simp
      exact hK.out _ _ ⟨fun zj => if zj = 17 then true else if zj = 13 then true else if zj = 12 then true else if zj = 18 then true else zB zj, fun zd => if zd = 60 then .bool false else if zd = 59 then .agg #[.int .i64 p1, .int .i64 p2] else if zd = 55 then .agg #[.int .i64 p1, .int .i64 p2] else if zd = 54 then .bool false else zS zd, by simp [hb12, hb13, hb17], by kernel_rfl, ⟨hF.1, hF.2.1, hF.2.2.1, hF.2.2.2.1, hF.2.2.2.2.1, hF.2.2.2.2.2.1, hF.2.2.2.2.2.2.1, hF.2.2.2.2.2.2.2.1, hF.2.2.2.2.2.2.2.2.1, hF.2.2.2.2.2.2.2.2.2.1, hF.2.2.2.2.2.2.2.2.2.2.1, hF.2.2.2.2.2.2.2.2.2.2.2.1, fun _ => rfl, fun _ => rfl, hF.2.2.2.2.2.2.2.2.2.2.2.2.2.2.1, hF.2.2.2.2.2.2.2.2.2.2.2.2.2.2.2.1, hF.2.2.2.2.2.2.2.2.2.2.2.2.2.2.2.2.1, fun _ => rfl, fun _ => rfl, hF.2.2.2.2.2.2.2.2.2.2.2.2.2.2.2.2.2.2.2⟩, hW⟩
    refine StepsI.cons rfl ?_ ?_
    · rintro L zA v9 ⟨zB, zS, rfl, rfl, hF, hW⟩ hL hm K hK
      have hb19 : zB 19 = false := by simpa using hL
      have hb12 : zB 12 = true := by cases e : zB 12 with | false => (exfalso; revert hm; simp [metB, Region.binds, e]) | true => rfl
      have hb18 : zB 18 = true := by cases e : zB 18 with | false => (exfalso; revert hm; simp [metB, Region.binds, e]) | true => rfl
      have e12 : zS 54 = .bool false := hF.2.2.2.2.2.2.2.2.2.2.2.2.1 hb12
      have e18 : zS 60 = .bool false := hF.2.2.2.2.2.2.2.2.2.2.2.2.2.2.2.2.2.2.1 hb18
      clear hL hm
      simp only [pCE]
      simp only [e12, e18]
      go_simp
      exact hK.out _ _ ⟨fun zj => if zj = 18 then true else if zj = 12 then true else if zj = 19 then true else zB zj, fun zd => if zd = 61 then .bool false else if zd = 60 then .bool false else if zd = 54 then .bool false else zS zd, by simp [hb12, hb18], by kernel_rfl, ⟨hF.1, hF.2.1, hF.2.2.1, hF.2.2.2.1, hF.2.2.2.2.1, hF.2.2.2.2.2.1, hF.2.2.2.2.2.2.1, hF.2.2.2.2.2.2.2.1, hF.2.2.2.2.2.2.2.2.1, hF.2.2.2.2.2.2.2.2.2.1, hF.2.2.2.2.2.2.2.2.2.2.1, hF.2.2.2.2.2.2.2.2.2.2.2.1, fun _ => rfl, hF.2.2.2.2.2.2.2.2.2.2.2.2.2.1, hF.2.2.2.2.2.2.2.2.2.2.2.2.2.2.1, hF.2.2.2.2.2.2.2.2.2.2.2.2.2.2.2.1, hF.2.2.2.2.2.2.2.2.2.2.2.2.2.2.2.2.1, hF.2.2.2.2.2.2.2.2.2.2.2.2.2.2.2.2.2.1, fun _ => rfl, fun _ => rfl⟩, hW⟩
    exact StepsI.nil (by kernel_rfl)
  · rintro L zA v9 ⟨zB, zS, rfl, rfl, hF, hW⟩ hr
    have hu := all_up (by kernel_rfl) (N := 20) (by kernel_rfl) hr
    have hb0 : zB 0 = true := by simpa using hu 0 (by decide)
    have hb1 : zB 1 = true := by simpa using hu 1 (by decide)
    have hb2 : zB 2 = true := by simpa using hu 2 (by decide)
    have hb3 : zB 3 = true := by simpa using hu 3 (by decide)
    have hb4 : zB 4 = true := by simpa using hu 4 (by decide)
    have hb5 : zB 5 = true := by simpa using hu 5 (by decide)
    have hb6 : zB 6 = true := by simpa using hu 6 (by decide)
    have hb7 : zB 7 = true := by simpa using hu 7 (by decide)
    have hb8 : zB 8 = true := by simpa using hu 8 (by decide)
    have hb9 : zB 9 = true := by simpa using hu 9 (by decide)
    have hb10 : zB 10 = true := by simpa using hu 10 (by decide)
    have hb11 : zB 11 = true := by simpa using hu 11 (by decide)
    have hb12 : zB 12 = true := by simpa using hu 12 (by decide)
    have hb13 : zB 13 = true := by simpa using hu 13 (by decide)
    have hb14 : zB 14 = true := by simpa using hu 14 (by decide)
    have hb15 : zB 15 = true := by simpa using hu 15 (by decide)
    have hb16 : zB 16 = true := by simpa using hu 16 (by decide)
    have hb17 : zB 17 = true := by simpa using hu 17 (by decide)
    have hb18 : zB 18 = true := by simpa using hu 18 (by decide)
    have hb19 : zB 19 = true := by simpa using hu 19 (by decide)
    have e0 : zS 42 = .agg #[.int .i64 j1, .int .i64 j2] := hF.1 hb0
    have e1 : zS 43 = .agg #[.int .i64 a, .int .i64 b] := hF.2.1 hb1
    have e2 : zS 44 = .agg #[.int .i64 c, .int .i64 d] := hF.2.2.1 hb2
    have e3 : zS 45 = .agg #[.int .i64 j1, .int .i64 j2] := hF.2.2.2.1 hb3
    have e4 : zS 46 = .bool false := hF.2.2.2.2.1 hb4
    have e5 : zS 47 = .bool false := hF.2.2.2.2.2.1 hb5
    have e6 : zS 48 = .agg #[.int .i64 m1, .int .i64 m2] := hF.2.2.2.2.2.2.1 hb6
    have e7 : zS 49 = .agg #[.int .i64 a, .int .i64 b] := hF.2.2.2.2.2.2.2.1 hb7
    have e8 : zS 50 = .agg #[.int .i64 c, .int .i64 d] := hF.2.2.2.2.2.2.2.2.1 hb8
    have e9 : zS 51 = .agg #[.int .i64 m1, .int .i64 m2] := hF.2.2.2.2.2.2.2.2.2.1 hb9
    have e10 : zS 52 = .bool false := hF.2.2.2.2.2.2.2.2.2.2.1 hb10
    have e11 : zS 53 = .bool false := hF.2.2.2.2.2.2.2.2.2.2.2.1 hb11
    have e12 : zS 54 = .bool false := hF.2.2.2.2.2.2.2.2.2.2.2.2.1 hb12
    have e13 : zS 55 = .agg #[.int .i64 p1, .int .i64 p2] := hF.2.2.2.2.2.2.2.2.2.2.2.2.2.1 hb13
    have e14 : zS 56 = .agg #[.int .i64 a, .int .i64 b] := hF.2.2.2.2.2.2.2.2.2.2.2.2.2.2.1 hb14
    have e15 : zS 57 = .agg #[.int .i64 c, .int .i64 d] := hF.2.2.2.2.2.2.2.2.2.2.2.2.2.2.2.1 hb15
    have e16 : zS 58 = .slice (some ⟨gs, 0, none⟩) st.length cs := hF.2.2.2.2.2.2.2.2.2.2.2.2.2.2.2.2.1 hb16
    have e17 : zS 59 = .agg #[.int .i64 p1, .int .i64 p2] := hF.2.2.2.2.2.2.2.2.2.2.2.2.2.2.2.2.2.1 hb17
    have e18 : zS 60 = .bool false := hF.2.2.2.2.2.2.2.2.2.2.2.2.2.2.2.2.2.2.1 hb18
    have e19 : zS 61 = .bool false := hF.2.2.2.2.2.2.2.2.2.2.2.2.2.2.2.2.2.2.2 hb19
    clear hu hr hF
    simp only [pCE]
    simp only [e0, e1, e2, e3, e4, e5, e6, e7, e8, e9, e10, e11, e12, e13, e14, e15, e16, e17, e18, e19]
    clear e0 e1 e2 e3 e4 e5 e6 e7 e8 e9 e10 e11 e12 e13 e14 e15 e16 e17 e18 e19
    clear hb0 hb1 hb2 hb3 hb4 hb5 hb6 hb7 hb8 hb9 hb10 hb11 hb12 hb13 hb14 hb15 hb16 hb17 hb18 hb19
    clear zB zS
    have hb2 := hW.1
    have BE := mkHid (below_step BE.out hb2)
    have HE := mkHid (HE.out.below hb2)
    have FA := mkHid (FA.out.below hb2)
    have FB := mkHid (FB.out.below hb2)
    have FD := mkHid (FD.out.below hb2)
    have IS := mkHid (IS.out.below hb2)
    have FJ := mkHid (FJ.out.below hb2)
    have FM := mkHid (FM.out.below hb2)
    have FW := mkHid (FW.out.below hb2)
    clear hb2 hW hA9 hB9 hJ9 hM9 hW9 C10 C11 C12 IS
    obtain ⟨k0, k1, _, _⟩ := FA.out
    go_wp2_with fail
    clear k0 k1
    refine (sOk_any a b _).mono ?_
    rintro e u1 ⟨rfl, hb2⟩
    have BE := mkHid (below_step BE.out hb2)
    have HE := mkHid (HE.out.below hb2)
    have FA := mkHid (FA.out.below hb2)
    have FB := mkHid (FB.out.below hb2)
    have FD := mkHid (FD.out.below hb2)
    have FJ := mkHid (FJ.out.below hb2)
    have FM := mkHid (FM.out.below hb2)
    have FW := mkHid (FW.out.below hb2)
    clear hb2
    cases okA : okB a b
    · go_wp2
      go_ret
      exact ⟨by first | rfl | (simp; done), BE.out⟩
    obtain ⟨k0, k1, _, _⟩ := FB.out
    go_wp2_with fail
    clear k0 k1
    refine (sOk_any c d _).mono ?_
    rintro e u2 ⟨rfl, hb2⟩
    have BE := mkHid (below_step BE.out hb2)
    have HE := mkHid (HE.out.below hb2)
    have FA := mkHid (FA.out.below hb2)
    have FB := mkHid (FB.out.below hb2)
    have FD := mkHid (FD.out.below hb2)
    have FJ := mkHid (FJ.out.below hb2)
    have FM := mkHid (FM.out.below hb2)
    have FW := mkHid (FW.out.below hb2)
    clear hb2
    cases okB_ : okB c d
    · go_wp2
      go_ret
      exact ⟨by first | rfl | (simp; done), BE.out⟩
    have OAJ : Hid (leqB a b j1 j2 = true) := mkHid (by have h := rj1 okA okB_; rw [EJ.out.1, EJ.out.2] at h; exact h)
    have OBJ : Hid (leqB c d j1 j2 = true) := mkHid (by have h := rj2 okA okB_; rw [EJ.out.1, EJ.out.2] at h; exact h)
    have OMA : Hid (leqB m1 m2 a b = true) := mkHid (by have h := rm1 (c := c) (d := d) okA; rw [EM.out.1, EM.out.2] at h; exact h)
    have OMB : Hid (leqB m1 m2 c d = true) := mkHid (by have h := rm2 (a := a) (b := b) okB_; rw [EM.out.1, EM.out.2] at h; exact h)
    obtain ⟨lq, hlq⟩ : ∃ z, leqB a b c d = z := ⟨_, rfl⟩
    have HLQ := mkHid hlq
    have OEQ : Hid (eqB j1 j2 c d = lq) := mkHid (by have h := req okA okB_; rw [EJ.out.1, EJ.out.2] at h; rw [h]; exact hlq)
    have OJ : Hid (okB j1 j2 = true) := mkHid (by have h := joinM_okB okA okB_; rw [EJ.out.1, EJ.out.2] at h; exact h)
    clear hlq
    have hA9 : ∀ v', Below u2.heap.size u2 v' → v'.cell? ⟨A, 0, none⟩ = some (.int .i64 a) ∧ v'.cell? ⟨A, 1, none⟩ = some (.int .i64 b) := fun v' h => ⟨(FA.out.below h).1, (FA.out.below h).2.1⟩
    have hB9 : ∀ v', Below u2.heap.size u2 v' → v'.cell? ⟨A + 1, 0, none⟩ = some (.int .i64 c) ∧ v'.cell? ⟨A + 1, 1, none⟩ = some (.int .i64 d) := fun v' h => ⟨(FB.out.below h).1, (FB.out.below h).2.1⟩
    have hJ9 : ∀ v', Below u2.heap.size u2 v' → v'.cell? ⟨J, 0, none⟩ = some (.int .i64 j1) ∧ v'.cell? ⟨J, 1, none⟩ = some (.int .i64 j2) := fun v' h => ⟨(FJ.out.below h).1, (FJ.out.below h).2.1⟩
    have hM9 : ∀ v', Below u2.heap.size u2 v' → v'.cell? ⟨M, 0, none⟩ = some (.int .i64 m1) ∧ v'.cell? ⟨M, 1, none⟩ = some (.int .i64 m2) := fun v' h => ⟨(FM.out.below h).1, (FM.out.below h).2.1⟩
    go_wp2_with fail
    refine wp_region_inv2 (fun zA0 L zA v9 => ∃ (zB : Nat → Bool) (zS : Nat → Value), L = #[zB 0, zB 1, zB 2, zB 3, zB 4, zB 5, zB 6, zB 7, zB 8, zB 9, zB 10, zB 11, zB 12, zB 13, zB 14, zB 15, zB 16, zB 17, zB 18, zB 19, zB 20, zB 21, zB 22, zB 23, zB 24, zB 25, zB 26, zB 27, zB 28, zB 29, zB 30] ∧ zA = pC zA0 70 101 [zS 70, zS 71, zS 72, zS 73, zS 74, zS 75, zS 76, zS 77, zS 78, zS 79, zS 80, zS 81, zS 82, zS 83, zS 84, zS 85, zS 86, zS 87, zS 88, zS 89, zS 90, zS 91, zS 92, zS 93, zS 94, zS 95, zS 96, zS 97, zS 98, zS 99, zS 100] ∧ ((zB 0 = true → zS 70 = .agg #[.int .i64 a, .int .i64 b]) ∧ (zB 1 = true → zS 71 = .agg #[.int .i64 j1, .int .i64 j2]) ∧ (zB 2 = true → zS 72 = .bool true) ∧ (zB 3 = true → zS 73 = .bool false) ∧ (zB 4 = true → zS 74 = .bool false) ∧ (zB 5 = true → zS 75 = .agg #[.int .i64 c, .int .i64 d]) ∧ (zB 6 = true → zS 76 = .agg #[.int .i64 j1, .int .i64 j2]) ∧ (zB 7 = true → zS 77 = .bool true) ∧ (zB 8 = true → zS 78 = .bool false) ∧ (zB 9 = true → zS 79 = .bool false) ∧ (zB 10 = true → zS 80 = .bool false) ∧ (zB 11 = true → zS 81 = .agg #[.int .i64 m1, .int .i64 m2]) ∧ (zB 12 = true → zS 82 = .agg #[.int .i64 a, .int .i64 b]) ∧ (zB 13 = true → zS 83 = .bool true) ∧ (zB 14 = true → zS 84 = .bool false) ∧ (zB 15 = true → zS 85 = .bool false) ∧ (zB 16 = true → zS 86 = .bool false) ∧ (zB 17 = true → zS 87 = .agg #[.int .i64 m1, .int .i64 m2]) ∧ (zB 18 = true → zS 88 = .agg #[.int .i64 c, .int .i64 d]) ∧ (zB 19 = true → zS 89 = .bool true) ∧ (zB 20 = true → zS 90 = .bool false) ∧ (zB 21 = true → zS 91 = .bool false) ∧ (zB 22 = true → zS 92 = .bool false) ∧ (zB 23 = true → zS 93 = .agg #[.int .i64 a, .int .i64 b]) ∧ (zB 24 = true → zS 94 = .agg #[.int .i64 c, .int .i64 d]) ∧ (zB 25 = true → zS 95 = .bool lq) ∧ (zB 26 = true → zS 96 = .agg #[.int .i64 j1, .int .i64 j2]) ∧ (zB 27 = true → zS 97 = .agg #[.int .i64 c, .int .i64 d]) ∧ (zB 28 = true → zS 98 = .bool lq) ∧ (zB 29 = true → zS 99 = .bool false) ∧ (zB 30 = true → zS 100 = .bool false)) ∧ Below u2.heap.size u2 v9 ∧ True) (by kernel_rfl) ?_ ?_ ?_
    · exact ⟨fun _ => false, fun _ => undef, rfl, by kernel_rfl, ⟨fun e => ft e, fun e => ft e, fun e => ft e, fun e => ft e, fun e => ft e, fun e => ft e, fun e => ft e, fun e => ft e, fun e => ft e, fun e => ft e, fun e => ft e, fun e => ft e, fun e => ft e, fun e => ft e, fun e => ft e, fun e => ft e, fun e => ft e, fun e => ft e, fun e => ft e, fun e => ft e, fun e => ft e, fun e => ft e, fun e => ft e, fun e => ft e, fun e => ft e, fun e => ft e, fun e => ft e, fun e => ft e, fun e => ft e, fun e => ft e, fun e => ft e⟩, ⟨(Below.refl _ _).drew, trivial⟩⟩
    · refine StepsI.cons rfl ?_ ?_
      · rintro L zA v9 ⟨zB, zS, rfl, rfl, hF, hW⟩ hL hm K hK
        have hb0 : zB 0 = false := by simpa using hL
        clear hL hm
        simp only [pCE]
        obtain ⟨k0, k1⟩ := hA9 _ hW.1
        go_simp
        exact hK.out _ _ ⟨fun zj => if zj = 0 then true else zB zj, fun zd => if zd = 70 then .agg #[.int .i64 a, .int .i64 b] else zS zd, rfl, by kernel_rfl, ⟨fun _ => rfl, hF.2.1, hF.2.2.1, hF.2.2.2.1, hF.2.2.2.2.1, hF.2.2.2.2.2.1, hF.2.2.2.2.2.2.1, hF.2.2.2.2.2.2.2.1, hF.2.2.2.2.2.2.2.2.1, hF.2.2.2.2.2.2.2.2.2.1, hF.2.2.2.2.2.2.2.2.2.2.1, hF.2.2.2.2.2.2.2.2.2.2.2.1, hF.2.2.2.2.2.2.2.2.2.2.2.2.1, hF.2.2.2.2.2.2.2.2.2.2.2.2.2.1, hF.2.2.2.2.2.2.2.2.2.2.2.2.2.2.1, hF.2.2.2.2.2.2.2.2.2.2.2.2.2.2.2.1, hF.2.2.2.2.2.2.2.2.2.2.2.2.2.2.2.2.1, hF.2.2.2.2.2.2.2.2.2.2.2.2.2.2.2.2.2.1, hF.2.2.2.2.2.2.2.2.2.2.2.2.2.2.2.2.2.2.1, hF.2.2.2.2.2.2.2.2.2.2.2.2.2.2.2.2.2.2.2.1, hF.2.2.2.2.2.2.2.2.2.2.2.2.2.2.2.2.2.2.2.2.1, hF.2.2.2.2.2.2.2.2.2.2.2.2.2.2.2.2.2.2.2.2.2.1, hF.2.2.2.2.2.2.2.2.2.2.2.2.2.2.2.2.2.2.2.2.2.2.1, hF.2.2.2.2.2.2.2.2.2.2.2.2.2.2.2.2.2.2.2.2.2.2.2.1, hF.2.2.2.2.2.2.2.2.2.2.2.2.2.2.2.2.2.2.2.2.2.2.2.2.1, hF.2.2.2.2.2.2.2.2.2.2.2.2.2.2.2.2.2.2.2.2.2.2.2.2.2.1, hF.2.2.2.2.2.2.2.2.2.2.2.2.2.2.2.2.2.2.2.2.2.2.2.2.2.2.1, hF.2.2.2.2.2.2.2.2.2.2.2.2.2.2.2.2.2.2.2.2.2.2.2.2.2.2.2.1, hF.2.2.2.2.2.2.2.2.2.2.2.2.2.2.2.2.2.2.2.2.2.2.2.2.2.2.2.2.1, hF.2.2.2.2.2.2.2.2.2.2.2.2.2.2.2.2.2.2.2.2.2.2.2.2.2.2.2.2.2.1, hF.2.2.2.2.2.2.2.2.2.2.2.2.2.2.2.2.2.2.2.2.2.2.2.2.2.2.2.2.2.2⟩, hW⟩
      refine StepsI.cons rfl ?_ ?_
      · rintro L zA v9 ⟨zB, zS, rfl, rfl, hF, hW⟩ hL hm K hK
        have hb1 : zB 1 = false := by simpa using hL
        clear hL hm
        simp only [pCE]
        obtain ⟨k0, k1⟩ := hJ9 _ hW.1
        go_simp
        exact hK.out _ _ ⟨fun zj => if zj = 1 then true else zB zj, fun zd => if zd = 71 then .agg #[.int .i64 j1, .int .i64 j2] else zS zd, rfl, by kernel_rfl, ⟨hF.1, fun _ => rfl, hF.2.2.1, hF.2.2.2.1, hF.2.2.2.2.1, hF.2.2.2.2.2.1, hF.2.2.2.2.2.2.1, hF.2.2.2.2.2.2.2.1, hF.2.2.2.2.2.2.2.2.1, hF.2.2.2.2.2.2.2.2.2.1, hF.2.2.2.2.2.2.2.2.2.2.1, hF.2.2.2.2.2.2.2.2.2.2.2.1, hF.2.2.2.2.2.2.2.2.2.2.2.2.1, hF.2.2.2.2.2.2.2.2.2.2.2.2.2.1, hF.2.2.2.2.2.2.2.2.2.2.2.2.2.2.1, hF.2.2.2.2.2.2.2.2.2.2.2.2.2.2.2.1, hF.2.2.2.2.2.2.2.2.2.2.2.2.2.2.2.2.1, hF.2.2.2.2.2.2.2.2.2.2.2.2.2.2.2.2.2.1, hF.2.2.2.2.2.2.2.2.2.2.2.2.2.2.2.2.2.2.1, hF.2.2.2.2.2.2.2.2.2.2.2.2.2.2.2.2.2.2.2.1, hF.2.2.2.2.2.2.2.2.2.2.2.2.2.2.2.2.2.2.2.2.1, hF.2.2.2.2.2.2.2.2.2.2.2.2.2.2.2.2.2.2.2.2.2.1, hF.2.2.2.2.2.2.2.2.2.2.2.2.2.2.2.2.2.2.2.2.2.2.1, hF.2.2.2.2.2.2.2.2.2.2.2.2.2.2.2.2.2.2.2.2.2.2.2.1, hF.2.2.2.2.2.2.2.2.2.2.2.2.2.2.2.2.2.2.2.2.2.2.2.2.1, hF.2.2.2.2.2.2.2.2.2.2.2.2.2.2.2.2.2.2.2.2.2.2.2.2.2.1, hF.2.2.2.2.2.2.2.2.2.2.2.2.2.2.2.2.2.2.2.2.2.2.2.2.2.2.1, hF.2.2.2.2.2.2.2.2.2.2.2.2.2.2.2.2.2.2.2.2.2.2.2.2.2.2.2.1, hF.2.2.2.2.2.2.2.2.2.2.2.2.2.2.2.2.2.2.2.2.2.2.2.2.2.2.2.2.1, hF.2.2.2.2.2.2.2.2.2.2.2.2.2.2.2.2.2.2.2.2.2.2.2.2.2.2.2.2.2.1, hF.2.2.2.2.2.2.2.2.2.2.2.2.2.2.2.2.2.2.2.2.2.2.2.2.2.2.2.2.2.2⟩, hW⟩
      refine StepsI.cons rfl ?_ ?_
      · rintro L zA v9 ⟨zB, zS, rfl, rfl, hF, hW⟩ hL hm K hK
        have hb2 : zB 2 = false := by simpa using hL
        have hb0 : zB 0 = true := by cases e : zB 0 with | false => (exfalso; revert hm; simp [metB, Region.binds, e]) | true => rfl
        have hb1 : zB 1 = true := by cases e : zB 1 with | false => (exfalso; revert hm; simp [metB, Region.binds, e]) | true => rfl
        have e0 : zS 70 = .agg #[.int .i64 a, .int .i64 b] := hF.1 hb0
        have e1 : zS 71 = .agg #[.int .i64 j1, .int .i64 j2] := hF.2.1 hb1
        clear hL hm
        simp only [pCE]
        simp only [e0, e1]
        go_simp
        refine (iLeq_any a b j1 j2 _).mono ?_
        rintro e v92 ⟨rfl, hb⟩
        rw [OAJ.out]
        go_wp2_with fail
        exact hK.out _ _ ⟨fun zj => if zj = 1 then true else if zj = 0 then true else if zj = 2 then true else zB zj, fun zd => if zd = 72 then .bool true else if zd = 71 then .agg #[.int .i64 j1, .int .i64 j2] else if zd = 70 then .agg #[.int .i64 a, .int .i64 b] else zS zd, by simp [hb0, hb1], by kernel_rfl, ⟨fun _ => rfl, fun _ => rfl, fun _ => rfl, hF.2.2.2.1, hF.2.2.2.2.1, hF.2.2.2.2.2.1, hF.2.2.2.2.2.2.1, hF.2.2.2.2.2.2.2.1, hF.2.2.2.2.2.2.2.2.1, hF.2.2.2.2.2.2.2.2.2.1, hF.2.2.2.2.2.2.2.2.2.2.1, hF.2.2.2.2.2.2.2.2.2.2.2.1, hF.2.2.2.2.2.2.2.2.2.2.2.2.1, hF.2.2.2.2.2.2.2.2.2.2.2.2.2.1, hF.2.2.2.2.2.2.2.2.2.2.2.2.2.2.1, hF.2.2.2.2.2.2.2.2.2.2.2.2.2.2.2.1, hF.2.2.2.2.2.2.2.2.2.2.2.2.2.2.2.2.1, hF.2.2.2.2.2.2.2.2.2.2.2.2.2.2.2.2.2.1, hF.2.2.2.2.2.2.2.2.2.2.2.2.2.2.2.2.2.2.1, hF.2.2.2.2.2.2.2.2.2.2.2.2.2.2.2.2.2.2.2.1, hF.2.2.2.2.2.2.2.2.2.2.2.2.2.2.2.2.2.2.2.2.1, hF.2.2.2.2.2.2.2.2.2.2.2.2.2.2.2.2.2.2.2.2.2.1, hF.2.2.2.2.2.2.2.2.2.2.2.2.2.2.2.2.2.2.2.2.2.2.1, hF.2.2.2.2.2.2.2.2.2.2.2.2.2.2.2.2.2.2.2.2.2.2.2.1, hF.2.2.2.2.2.2.2.2.2.2.2.2.2.2.2.2.2.2.2.2.2.2.2.2.1, hF.2.2.2.2.2.2.2.2.2.2.2.2.2.2.2.2.2.2.2.2.2.2.2.2.2.1, hF.2.2.2.2.2.2.2.2.2.2.2.2.2.2.2.2.2.2.2.2.2.2.2.2.2.2.1, hF.2.2.2.2.2.2.2.2.2.2.2.2.2.2.2.2.2.2.2.2.2.2.2.2.2.2.2.1, hF.2.2.2.2.2.2.2.2.2.2.2.2.2.2.2.2.2.2.2.2.2.2.2.2.2.2.2.2.1, hF.2.2.2.2.2.2.2.2.2.2.2.2.2.2.2.2.2.2.2.2.2.2.2.2.2.2.2.2.2.1, hF.2.2.2.2.2.2.2.2.2.2.2.2.2.2.2.2.2.2.2.2.2.2.2.2.2.2.2.2.2.2⟩, ⟨below_step hW.1 hb, trivial⟩⟩
      refine StepsI.cons rfl ?_ ?_
      · rintro L zA v9 ⟨zB, zS, rfl, rfl, hF, hW⟩ hL hm K hK
        have hb3 : zB 3 = false := by simpa using hL
        have hb2 : zB 2 = true := by cases e : zB 2 with | false => (exfalso; revert hm; simp [metB, Region.binds, e]) | true => rfl
        have e2 : zS 72 = .bool true := hF.2.2.1 hb2
        clear hL hm
        simp only [pCE]
        simp only [e2]
        go_simp
        exact hK.out _ _ ⟨fun zj => if zj = 2 then true else if zj = 3 then true else zB zj, fun zd => if zd = 73 then .bool false else if zd = 72 then .bool true else zS zd, by simp [hb2], by kernel_rfl, ⟨hF.1, hF.2.1, fun _ => rfl, fun _ => rfl, hF.2.2.2.2.1, hF.2.2.2.2.2.1, hF.2.2.2.2.2.2.1, hF.2.2.2.2.2.2.2.1, hF.2.2.2.2.2.2.2.2.1, hF.2.2.2.2.2.2.2.2.2.1, hF.2.2.2.2.2.2.2.2.2.2.1, hF.2.2.2.2.2.2.2.2.2.2.2.1, hF.2.2.2.2.2.2.2.2.2.2.2.2.1, hF.2.2.2.2.2.2.2.2.2.2.2.2.2.1, hF.2.2.2.2.2.2.2.2.2.2.2.2.2.2.1, hF.2.2.2.2.2.2.2.2.2.2.2.2.2.2.2.1, hF.2.2.2.2.2.2.2.2.2.2.2.2.2.2.2.2.1, hF.2.2.2.2.2.2.2.2.2.2.2.2.2.2.2.2.2.1, hF.2.2.2.2.2.2.2.2.2.2.2.2.2.2.2.2.2.2.1, hF.2.2.2.2.2.2.2.2.2.2.2.2.2.2.2.2.2.2.2.1, hF.2.2.2.2.2.2.2.2.2.2.2.2.2.2.2.2.2.2.2.2.1, hF.2.2.2.2.2.2.2.2.2.2.2.2.2.2.2.2.2.2.2.2.2.1, hF.2.2.2.2.2.2.2.2.2.2.2.2.2.2.2.2.2.2.2.2.2.2.1, hF.2.2.2.2.2.2.2.2.2.2.2.2.2.2.2.2.2.2.2.2.2.2.2.1, hF.2.2.2.2.2.2.2.2.2.2.2.2.2.2.2.2.2.2.2.2.2.2.2.2.1, hF.2.2.2.2.2.2.2.2.2.2.2.2.2.2.2.2.2.2.2.2.2.2.2.2.2.1, hF.2.2.2.2.2.2.2.2.2.2.2.2.2.2.2.2.2.2.2.2.2.2.2.2.2.2.1, hF.2.2.2.2.2.2.2.2.2.2.2.2.2.2.2.2.2.2.2.2.2.2.2.2.2.2.2.1, hF.2.2.2.2.2.2.2.2.2.2.2.2.2.2.2.2.2.2.2.2.2.2.2.2.2.2.2.2.1, hF.2.2.2.2.2.2.2.2.2.2.2.2.2.2.2.2.2.2.2.2.2.2.2.2.2.2.2.2.2.1, hF.2.2.2.2.2.2.2.2.2.2.2.2.2.2.2.2.2.2.2.2.2.2.2.2.2.2.2.2.2.2⟩, hW⟩
      refine StepsI.cons rfl ?_ ?_
      · rintro L zA v9 ⟨zB, zS, rfl, rfl, hF, hW⟩ hL hm K hK
        have hb4 : zB 4 = false := by simpa using hL
        have hb3 : zB 3 = true := by cases e : zB 3 with | false => (exfalso; revert hm; simp [metB, Region.binds, e]) | true => rfl
        have e3 : zS 73 = .bool false := hF.2.2.2.1 hb3
        clear hL hm
        simp only [pCE]
        simp only [e3]
        go_simp
        exact hK.out _ _ ⟨fun zj => if zj = 3 then true else if zj = 4 then true else zB zj, fun zd => if zd = 74 then .bool false else if zd = 73 then .bool false else zS zd, by simp [hb3], by kernel_rfl, ⟨hF.1, hF.2.1, hF.2.2.1, fun _ => rfl, fun _ => rfl, hF.2.2.2.2.2.1, hF.2.2.2.2.2.2.1, hF.2.2.2.2.2.2.2.1, hF.2.2.2.2.2.2.2.2.1, hF.2.2.2.2.2.2.2.2.2.1, hF.2.2.2.2.2.2.2.2.2.2.1, hF.2.2.2.2.2.2.2.2.2.2.2.1, hF.2.2.2.2.2.2.2.2.2.2.2.2.1, hF.2.2.2.2.2.2.2.2.2.2.2.2.2.1, hF.2.2.2.2.2.2.2.2.2.2.2.2.2.2.1, hF.2.2.2.2.2.2.2.2.2.2.2.2.2.2.2.1, hF.2.2.2.2.2.2.2.2.2.2.2.2.2.2.2.2.1, hF.2.2.2.2.2.2.2.2.2.2.2.2.2.2.2.2.2.1, hF.2.2.2.2.2.2.2.2.2.2.2.2.2.2.2.2.2.2.1, hF.2.2.2.2.2.2.2.2.2.2.2.2.2.2.2.2.2.2.2.1, hF.2.2.2.2.2.2.2.2.2.2.2.2.2.2.2.2.2.2.2.2.1, hF.2.2.2.2.2.2.2.2.2.2.2.2.2.2.2.2.2.2.2.2.2.1, hF.2.2.2.2.2.2.2.2.2.2.2.2.2.2.2.2.2.2.2.2.2.2.1, hF.2.2.2.2.2.2.2.2.2.2.2.2.2.2.2.2.2.2.2.2.2.2.2.1, hF.2.2.2.2.2.2.2.2.2.2.2.2.2.2.2.2.2.2.2.2.2.2.2.2.1, hF.2.2.2.2.2.2.2.2.2.2.2.2.2.2.2.2.2.2.2.2.2.2.2.2.2.1, hF.2.2.2.2.2.2.2.2.2.2.2.2.2.2.2.2.2.2.2.2.2.2.2.2.2.2.1, hF.2.2.2.2.2.2.2.2.2.2.2.2.2.2.2.2.2.2.2.2.2.2.2.2.2.2.2.1, hF.2.2.2.2.2.2.2.2.2.2.2.2.2.2.2.2.2.2.2.2.2.2.2.2.2.2.2.2.1, hF.2.2.2.2.2.2.2.2.2.2.2.2.2.2.2.2.2.2.2.2.2.2.2.2.2.2.2.2.2.1, hF.2.2.2.2.2.2.2.2.2.2.2.2.2.2.2.2.2.2.2.2.2.2.2.2.2.2.2.2.2.2⟩, hW⟩
      refine StepsI.cons rfl ?_ ?_
      · rintro L zA v9 ⟨zB, zS, rfl, rfl, hF, hW⟩ hL hm K hK
        have hb5 : zB 5 = false := by simpa using hL
        have hb4 : zB 4 = true := by cases e : zB 4 with | false => (exfalso; revert hm; simp [metB, Region.binds, e]) | true => rfl
        have e4 : zS 74 = .bool false := hF.2.2.2.2.1 hb4
        clear hL hm
        simp only [pCE]
        simp only [e4]
        obtain ⟨k0, k1⟩ := hB9 _ hW.1
        go_simp
        exact hK.out _ _ ⟨fun zj => if zj = 4 then true else if zj = 5 then true else zB zj, fun zd => if zd = 75 then .agg #[.int .i64 c, .int .i64 d] else if zd = 74 then .bool false else zS zd, by simp [hb4], by kernel_rfl, ⟨hF.1, hF.2.1, hF.2.2.1, hF.2.2.2.1, fun _ => rfl, fun _ => rfl, hF.2.2.2.2.2.2.1, hF.2.2.2.2.2.2.2.1, hF.2.2.2.2.2.2.2.2.1, hF.2.2.2.2.2.2.2.2.2.1, hF.2.2.2.2.2.2.2.2.2.2.1, hF.2.2.2.2.2.2.2.2.2.2.2.1, hF.2.2.2.2.2.2.2.2.2.2.2.2.1, hF.2.2.2.2.2.2.2.2.2.2.2.2.2.1, hF.2.2.2.2.2.2.2.2.2.2.2.2.2.2.1, hF.2.2.2.2.2.2.2.2.2.2.2.2.2.2.2.1, hF.2.2.2.2.2.2.2.2.2.2.2.2.2.2.2.2.1, hF.2.2.2.2.2.2.2.2.2.2.2.2.2.2.2.2.2.1, hF.2.2.2.2.2.2.2.2.2.2.2.2.2.2.2.2.2.2.1, hF.2.2.2.2.2.2.2.2.2.2.2.2.2.2.2.2.2.2.2.1, hF.2.2.2.2.2.2.2.2.2.2.2.2.2.2.2.2.2.2.2.2.1, hF.2.2.2.2.2.2.2.2.2.2.2.2.2.2.2.2.2.2.2.2.2.1, hF.2.2.2.2.2.2.2.2.2.2.2.2.2.2.2.2.2.2.2.2.2.2.1, hF.2.2.2.2.2.2.2.2.2.2.2.2.2.2.2.2.2.2.2.2.2.2.2.1, hF.2.2.2.2.2.2.2.2.2.2.2.2.2.2.2.2.2.2.2.2.2.2.2.2.1, hF.2.2.2.2.2.2.2.2.2.2.2.2.2.2.2.2.2.2.2.2.2.2.2.2.2.1, hF.2.2.2.2.2.2.2.2.2.2.2.2.2.2.2.2.2.2.2.2.2.2.2.2.2.2.1, hF.2.2.2.2.2.2.2.2.2.2.2.2.2.2.2.2.2.2.2.2.2.2.2.2.2.2.2.1, hF.2.2.2.2.2.2.2.2.2.2.2.2.2.2.2.2.2.2.2.2.2.2.2.2.2.2.2.2.1, hF.2.2.2.2.2.2.2.2.2.2.2.2.2.2.2.2.2.2.2.2.2.2.2.2.2.2.2.2.2.1, hF.2.2.2.2.2.2.2.2.2.2.2.2.2.2.2.2.2.2.2.2.2.2.2.2.2.2.2.2.2.2⟩, hW⟩
      refine StepsI.cons rfl ?_ ?_
      · rintro L zA v9 ⟨zB, zS, rfl, rfl, hF, hW⟩ hL hm K hK
        have hb6 : zB 6 = false := by simpa using hL
        have hb4 : zB 4 = true := by cases e : zB 4 with | false => (exfalso; revert hm; simp [metB, Region.binds, e]) | true => rfl
        have e4 : zS 74 = .bool false := hF.2.2.2.2.1 hb4
        clear hL hm
        simp only [pCE]
        simp only [e4]
        obtain ⟨k0, k1⟩ := hJ9 _ hW.1
        go_simp
        exact hK.out _ _ ⟨fun zj => if zj = 4 then true else if zj = 6 then true else zB zj, fun zd => if zd = 76 then .agg #[.int .i64 j1, .int .i64 j2] else if zd = 74 then .bool false else zS zd, by simp [hb4], by kernel_rfl, ⟨hF.1, hF.2.1, hF.2.2.1, hF.2.2.2.1, fun _ => rfl, hF.2.2.2.2.2.1, fun _ => rfl, hF.2.2.2.2.2.2.2.1, hF.2.2.2.2.2.2.2.2.1, hF.2.2.2.2.2.2.2.2.2.1, hF.2.2.2.2.2.2.2.2.2.2.1, hF.2.2.2.2.2.2.2.2.2.2.2.1, hF.2.2.2.2.2.2.2.2.2.2.2.2.1, hF.2.2.2.2.2.2.2.2.2.2.2.2.2.1, hF.2.2.2.2.2.2.2.2.2.2.2.2.2.2.1, hF.2.2.2.2.2.2.2.2.2.2.2.2.2.2.2.1, hF.2.2.2.2.2.2.2.2.2.2.2.2.2.2.2.2.1, hF.2.2.2.2.2.2.2.2.2.2.2.2.2.2.2.2.2.1, hF.2.2.2.2.2.2.2.2.2.2.2.2.2.2.2.2.2.2.1, hF.2.2.2.2.2.2.2.2.2.2.2.2.2.2.2.2.2.2.2.1, hF.2.2.2.2.2.2.2.2.2.2.2.2.2.2.2.2.2.2.2.2.1, hF.2.2.2.2.2.2.2.2.2.2.2.2.2.2.2.2.2.2.2.2.2.1, hF.2.2.2.2.2.2.2.2.2.2.2.2.2.2.2.2.2.2.2.2.2.2.1, hF.2.2.2.2.2.2.2.2.2.2.2.2.2.2.2.2.2.2.2.2.2.2.2.1, hF.2.2.2.2.2.2.2.2.2.2.2.2.2.2.2.2.2.2.2.2.2.2.2.2.1, hF.2.2.2.2.2.2.2.2.2.2.2.2.2.2.2.2.2.2.2.2.2.2.2.2.2.1, hF.2.2.2.2.2.2.2.2.2.2.2.2.2.2.2.2.2.2.2.2.2.2.2.2.2.2.1, hF.2.2.2.2.2.2.2.2.2.2.2.2.2.2.2.2.2.2.2.2.2.2.2.2.2.2.2.1, hF.2.2.2.2.2.2.2.2.2.2.2.2.2.2.2.2.2.2.2.2.2.2.2.2.2.2.2.2.1, hF.2.2.2.2.2.2.2.2.2.2.2.2.2.2.2.2.2.2.2.2.2.2.2.2.2.2.2.2.2.1, hF.2.2.2.2.2.2.2.2.2.2.2.2.2.2.2.2.2.2.2.2.2.2.2.2.2.2.2.2.2.2⟩, hW⟩
      refine StepsI.cons rfl ?_ ?_
      · rintro L zA v9 ⟨zB, zS, rfl, rfl, hF, hW⟩ hL hm K hK
        have hb7 : zB 7 = false := by simpa using hL
        have hb4 : zB 4 = true := by cases e : zB 4 with | false => (exfalso; revert hm; simp [metB, Region.binds, e]) | true => rfl
        have hb5 : zB 5 = true := by cases e : zB 5 with | false => (exfalso; revert hm; simp [metB, Region.binds, e]) | true => rfl
        have hb6 : zB 6 = true := by cases e : zB 6 with | false => (exfalso; revert hm; simp [metB, Region.binds, e]) | true => rfl
        have e4 : zS 74 = .bool false := hF.2.2.2.2.1 hb4
        have e5 : zS 75 = .agg #[.int .i64 c, .int .i64 d] := hF.2.2.2.2.2.1 hb5
        have e6 : zS 76 = .agg #[.int .i64 j1, .int .i64 j2] := hF.2.2.2.2.2.2.1 hb6
        clear hL hm
        simp only [pCE]
        simp only [e4, e5, e6]
        go_simp
        refine (iLeq_any c d j1 j2 _).mono ?_
        rintro e v92 ⟨rfl, hb⟩
        rw [OBJ.out]
        go_wp2_with fail
        exact hK.out _ _ ⟨fun zj => if zj = 6 then true else if zj = 5 then true else if zj = 4 then true else if zj = 7 then true else zB zj, fun zd => if zd = 77 then .bool true else if zd = 76 then .agg #[.int .i64 j1, .int .i64 j2] else if zd = 75 then .agg #[.int .i64 c, .int .i64 d] else if zd = 74 then .bool false else zS zd, by simp [hb4, hb5, hb6], by kernel_rfl, ⟨hF.1, hF.2.1, hF.2.2.1, hF.2.2.2.1, fun _ => rfl, fun _ => rfl, fun _ => rfl, fun _ => rfl, hF.2.2.2.2.2.2.2.2.1, hF.2.2.2.2.2.2.2.2.2.1, hF.2.2.2.2.2.2.2.2.2.2.1, hF.2.2.2.2.2.2.2.2.2.2.2.1, hF.2.2.2.2.2.2.2.2.2.2.2.2.1, hF.2.2.2.2.2.2.2.2.2.2.2.2.2.1, hF.2.2.2.2.2.2.2.2.2.2.2.2.2.2.1, hF.2.2.2.2.2.2.2.2.2.2.2.2.2.2.2.1, hF.2.2.2.2.2.2.2.2.2.2.2.2.2.2.2.2.1, hF.2.2.2.2.2.2.2.2.2.2.2.2.2.2.2.2.2.1, hF.2.2.2.2.2.2.2.2.2.2.2.2.2.2.2.2.2.2.1, hF.2.2.2.2.2.2.2.2.2.2.2.2.2.2.2.2.2.2.2.1, hF.2.2.2.2.2.2.2.2.2.2.2.2.2.2.2.2.2.2.2.2.1, hF.2.2.2.2.2.2.2.2.2.2.2.2.2.2.2.2.2.2.2.2.2.1, hF.2.2.2.2.2.2.2.2.2.2.2.2.2.2.2.2.2.2.2.2.2.2.1, hF.2.2.2.2.2.2.2.2.2.2.2.2.2.2.2.2.2.2.2.2.2.2.2.1, hF.2.2.2.2.2.2.2.2.2.2.2.2.2.2.2.2.2.2.2.2.2.2.2.2.1, hF.2.2.2.2.2.2.2.2.2.2.2.2.2.2.2.2.2.2.2.2.2.2.2.2.2.1, hF.2.2.2.2.2.2.2.2.2.2.2.2.2.2.2.2.2.2.2.2.2.2.2.2.2.2.1, hF.2.2.2.2.2.2.2.2.2.2.2.2.2.2.2.2.2.2.2.2.2.2.2.2.2.2.2.1, hF.2.2.2.2.2.2.2.2.2.2.2.2.2.2.2.2.2.2.2.2.2.2.2.2.2.2.2.2.1, hF.2.2.2.2.2.2.2.2.2.2.2.2.2.2.2.2.2.2.2.2.2.2.2.2.2.2.2.2.2.1, hF.2.2.2.2.2.2.2.2.2.2.2.2.2.2.2.2.2.2.2.2.2.2.2.2.2.2.2.2.2.2⟩, ⟨below_step hW.1 hb, trivial⟩⟩
      refine StepsI.cons rfl ?_ ?_
      · rintro L zA v9 ⟨zB, zS, rfl, rfl, hF, hW⟩ hL hm K hK
        have hb8 : zB 8 = false := by simpa using hL
        have hb4 : zB 4 = true := by cases e : zB 4 with | false => (exfalso; revert hm; simp [metB, Region.binds, e]) | true => rfl
        have hb7 : zB 7 = true := by cases e : zB 7 with | false => (exfalso; revert hm; simp [metB, Region.binds, e]) | true => rfl
        have e4 : zS 74 = .bool false := hF.2.2.2.2.1 hb4
        have e7 : zS 77 = .bool true := hF.2.2.2.2.2.2.2.1 hb7
        clear hL hm
        simp only [pCE]
        simp only [e4, e7]
        go_simp
        exact hK.out _ _ ⟨fun zj => if zj = 7 then true else if zj = 4 then true else if zj = 8 then true else zB zj, fun zd => if zd = 78 then .bool false else if zd = 77 then .bool true else if zd = 74 then .bool false else zS zd, by simp [hb4, hb7], by kernel_rfl, ⟨hF.1, hF.2.1, hF.2.2.1, hF.2.2.2.1, fun _ => rfl, hF.2.2.2.2.2.1, hF.2.2.2.2.2.2.1, fun _ => rfl, fun _ => rfl, hF.2.2.2.2.2.2.2.2.2.1, hF.2.2.2.2.2.2.2.2.2.2.1, hF.2.2.2.2.2.2.2.2.2.2.2.1, hF.2.2.2.2.2.2.2.2.2.2.2.2.1, hF.2.2.2.2.2.2.2.2.2.2.2.2.2.1, hF.2.2.2.2.2.2.2.2.2.2.2.2.2.2.1, hF.2.2.2.2.2.2.2.2.2.2.2.2.2.2.2.1, hF.2.2.2.2.2.2.2.2.2.2.2.2.2.2.2.2.1, hF.2.2.2.2.2.2.2.2.2.2.2.2.2.2.2.2.2.1, hF.2.2.2.2.2.2.2.2.2.2.2.2.2.2.2.2.2.2.1, hF.2.2.2.2.2.2.2.2.2.2.2.2.2.2.2.2.2.2.2.1, hF.2.2.2.2.2.2.2.2.2.2.2.2.2.2.2.2.2.2.2.2.1, hF.2.2.2.2.2.2.2.2.2.2.2.2.2.2.2.2.2.2.2.2.2.1, hF.2.2.2.2.2.2.2.2.2.2.2.2.2.2.2.2.2.2.2.2.2.2.1, hF.2.2.2.2.2.2.2.2.2.2.2.2.2.2.2.2.2.2.2.2.2.2.2.1, hF.2.2.2.2.2.2.2.2.2.2.2.2.2.2.2.2.2.2.2.2.2.2.2.2.1, hF.2.2.2.2.2.2.2.2.2.2.2.2.2.2.2.2.2.2.2.2.2.2.2.2.2.1, hF.2.2.2.2.2.2.2.2.2.2.2.2.2.2.2.2.2.2.2.2.2.2.2.2.2.2.1, hF.2.2.2.2.2.2.2.2.2.2.2.2.2.2.2.2.2.2.2.2.2.2.2.2.2.2.2.1, hF.2.2.2.2.2.2.2.2.2.2.2.2.2.2.2.2.2.2.2.2.2.2.2.2.2.2.2.2.1, hF.2.2.2.2.2.2.2.2.2.2.2.2.2.2.2.2.2.2.2.2.2.2.2.2.2.2.2.2.2.1, hF.2.2.2.2.2.2.2.2.2.2.2.2.2.2.2.2.2.2.2.2.2.2.2.2.2.2.2.2.2.2⟩, hW⟩
      refine StepsI.cons rfl ?_ ?_
      · rintro L zA v9 ⟨zB, zS, rfl, rfl, hF, hW⟩ hL hm K hK
        have hb9 : zB 9 = false := by simpa using hL
        have hb4 : zB 4 = true := by cases e : zB 4 with | false => (exfalso; revert hm; simp [metB, Region.binds, e]) | true => rfl
        have hb8 : zB 8 = true := by cases e : zB 8 with | false => (exfalso; revert hm; simp [metB, Region.binds, e]) | true => rfl
        have e4 : zS 74 = .bool false := hF.2.2.2.2.1 hb4
        have e8 : zS 78 = .bool false := hF.2.2.2.2.2.2.2.2.1 hb8
        clear hL hm
        simp only [pCE]
        simp only [e4, e8]
        go_simp
        exact hK.out _ _ ⟨fun zj => if zj = 8 then true else if zj = 4 then true else if zj = 9 then true else zB zj, fun zd => if zd = 79 then .bool false else if zd = 78 then .bool false else if zd = 74 then .bool false else zS zd, by simp [hb4, hb8], by kernel_rfl, ⟨hF.1, hF.2.1, hF.2.2.1, hF.2.2.2.1, fun _ => rfl, hF.2.2.2.2.2.1, hF.2.2.2.2.2.2.1, hF.2.2.2.2.2.2.2.1, fun _ => rfl, fun _ => rfl, hF.2.2.2.2.2.2.2.2.2.2.1, hF.2.2.2.2.2.2.2.2.2.2.2.1, hF.2.2.2.2.2.2.2.2.2.2.2.2.1, hF.2.2.2.2.2.2.2.2.2.2.2.2.2.1, hF.2.2.2.2.2.2.2.2.2.2.2.2.2.2.1, hF.2.2.2.2.2.2.2.2.2.2.2.2.2.2.2.1, hF.2.2.2.2.2.2.2.2.2.2.2.2.2.2.2.2.1, hF.2.2.2.2.2.2.2.2.2.2.2.2.2.2.2.2.2.1, hF.2.2.2.2.2.2.2.2.2.2.2.2.2.2.2.2.2.2.1, hF.2.2.2.2.2.2.2.2.2.2.2.2.2.2.2.2.2.2.2.1, hF.2.2.2.2.2.2.2.2.2.2.2.2.2.2.2.2.2.2.2.2.1, hF.2.2.2.2.2.2.2.2.2.2.2.2.2.2.2.2.2.2.2.2.2.1, hF.2.2.2.2.2.2.2.2.2.2.2.2.2.2.2.2.2.2.2.2.2.2.1, hF.2.2.2.2.2.2.2.2.2.2.2.2.2.2.2.2.2.2.2.2.2.2.2.1, hF.2.2.2.2.2.2.2.2.2.2.2.2.2.2.2.2.2.2.2.2.2.2.2.2.1, hF.2.2.2.2.2.2.2.2.2.2.2.2.2.2.2.2.2.2.2.2.2.2.2.2.2.1, hF.2.2.2.2.2.2.2.2.2.2.2.2.2.2.2.2.2.2.2.2.2.2.2.2.2.2.1, hF.2.2.2.2.2.2.2.2.2.2.2.2.2.2.2.2.2.2.2.2.2.2.2.2.2.2.2.1, hF.2.2.2.2.2.2.2.2.2.2.2.2.2.2.2.2.2.2.2.2.2.2.2.2.2.2.2.2.1, hF.2.2.2.2.2.2.2.2.2.2.2.2.2.2.2.2.2.2.2.2.2.2.2.2.2.2.2.2.2.1, hF.2.2.2.2.2.2.2.2.2.2.2.2.2.2.2.2.2.2.2.2.2.2.2.2.2.2.2.2.2.2⟩, hW⟩
      refine StepsI.cons rfl ?_ ?_
      · rintro L zA v9 ⟨zB, zS, rfl, rfl, hF, hW⟩ hL hm K hK
        have hb10 : zB 10 = false := by simpa using hL
        have hb9 : zB 9 = true := by cases e : zB 9 with | false => (exfalso; revert hm; simp [metB, Region.binds, e]) | true => rfl
        have e9 : zS 79 = .bool false := hF.2.2.2.2.2.2.2.2.2.1 hb9
        clear hL hm
        simp only [pCE]
        simp only [e9]
        go_simp
        exact hK.out _ _ ⟨fun zj => if zj = 9 then true else if zj = 10 then true else zB zj, fun zd => if zd = 80 then .bool false else if zd = 79 then .bool false else zS zd, by simp [hb9], by kernel_rfl, ⟨hF.1, hF.2.1, hF.2.2.1, hF.2.2.2.1, hF.2.2.2.2.1, hF.2.2.2.2.2.1, hF.2.2.2.2.2.2.1, hF.2.2.2.2.2.2.2.1, hF.2.2.2.2.2.2.2.2.1, fun _ => rfl, fun _ => rfl, hF.2.2.2.2.2.2.2.2.2.2.2.1, hF.2.2.2.2.2.2.2.2.2.2.2.2.1, hF.2.2.2.2.2.2.2.2.2.2.2.2.2.1, hF.2.2.2.2.2.2.2.2.2.2.2.2.2.2.1, hF.2.2.2.2.2.2.2.2.2.2.2.2.2.2.2.1, hF.2.2.2.2.2.2.2.2.2.2.2.2.2.2.2.2.1, hF.2.2.2.2.2.2.2.2.2.2.2.2.2.2.2.2.2.1, hF.2.2.2.2.2.2.2.2.2.2.2.2.2.2.2.2.2.2.1, hF.2.2.2.2.2.2.2.2.2.2.2.2.2.2.2.2.2.2.2.1, hF.2.2.2.2.2.2.2.2.2.2.2.2.2.2.2.2.2.2.2.2.1, hF.2.2.2.2.2.2.2.2.2.2.2.2.2.2.2.2.2.2.2.2.2.1, hF.2.2.2.2.2.2.2.2.2.2.2.2.2.2.2.2.2.2.2.2.2.2.1, hF.2.2.2.2.2.2.2.2.2.2.2.2.2.2.2.2.2.2.2.2.2.2.2.1, hF.2.2.2.2.2.2.2.2.2.2.2.2.2.2.2.2.2.2.2.2.2.2.2.2.1, hF.2.2.2.2.2.2.2.2.2.2.2.2.2.2.2.2.2.2.2.2.2.2.2.2.2.1, hF.2.2.2.2.2.2.2.2.2.2.2.2.2.2.2.2.2.2.2.2.2.2.2.2.2.2.1, hF.2.2.2.2.2.2.2.2.2.2.2.2.2.2.2.2.2.2.2.2.2.2.2.2.2.2.2.1, hF.2.2.2.2.2.2.2.2.2.2.2.2.2.2.2.2.2.2.2.2.2.2.2.2.2.2.2.2.1, hF.2.2.2.2.2.2.2.2.2.2.2.2.2.2.2.2.2.2.2.2.2.2.2.2.2.2.2.2.2.1, hF.2.2.2.2.2.2.2.2.2.2.2.2.2.2.2.2.2.2.2.2.2.2.2.2.2.2.2.2.2.2⟩, hW⟩
      refine StepsI.cons rfl ?_ ?_
      · rintro L zA v9 ⟨zB, zS, rfl, rfl, hF, hW⟩ hL hm K hK
        have hb11 : zB 11 = false := by simpa using hL
        have hb10 : zB 10 = true := by cases e : zB 10 with | false => (exfalso; revert hm; simp [metB, Region.binds, e]) | true => rfl
        have e10 : zS 80 = .bool false := hF.2.2.2.2.2.2.2.2.2.2.1 hb10
        clear hL hm
        simp only [pCE]
        simp only [e10]
        obtain ⟨k0, k1⟩ := hM9 _ hW.1
        go_simp
        exact hK.out _ _ ⟨fun zj => if zj = 10 then true else if zj = 11 then true else zB zj, fun zd => if zd = 81 then .agg #[.int .i64 m1, .int .i64 m2] else if zd = 80 then .bool false else zS zd, by simp [hb10], by kernel_rfl, ⟨hF.1, hF.2.1, hF.2.2.1, hF.2.2.2.1, hF.2.2.2.2.1, hF.2.2.2.2.2.1, hF.2.2.2.2.2.2.1, hF.2.2.2.2.2.2.2.1, hF.2.2.2.2.2.2.2.2.1, hF.2.2.2.2.2.2.2.2.2.1, fun _ => rfl, fun _ => rfl, hF.2.2.2.2.2.2.2.2.2.2.2.2.1, hF.2.2.2.2.2.2.2.2.2.2.2.2.2.1, hF.2.2.2.2.2.2.2.2.2.2.2.2.2.2.1, hF.2.2.2.2.2.2.2.2.2.2.2.2.2.2.2.1, hF.2.2.2.2.2.2.2.2.2.2.2.2.2.2.2.2.1, hF.2.2.2.2.2.2.2.2.2.2.2.2.2.2.2.2.2.1, hF.2.2.2.2.2.2.2.2.2.2.2.2.2.2.2.2.2.2.1, hF.2.2.2.2.2.2.2.2.2.2.2.2.2.2.2.2.2.2.2.1, hF.2.2.2.2.2.2.2.2.2.2.2.2.2.2.2.2.2.2.2.2.1, hF.2.2.2.2.2.2.2.2.2.2.2.2.2.2.2.2.2.2.2.2.2.1, hF.2.2.2.2.2.2.2.2.2.2.2.2.2.2.2.2.2.2.2.2.2.2.1, hF.2.2.2.2.2.2.2.2.2.2.2.2.2.2.2.2.2.2.2.2.2.2.2.1, hF.2.2.2.2.2.2.2.2.2.2.2.2.2.2.2.2.2.2.2.2.2.2.2.2.1, hF.2.2.2.2.2.2.2.2.2.2.2.2.2.2.2.2.2.2.2.2.2.2.2.2.2.1, hF.2.2.2.2.2.2.2.2.2.2.2.2.2.2.2.2.2.2.2.2.2.2.2.2.2.2.1, hF.2.2.2.2.2.2.2.2.2.2.2.2.2.2.2.2.2.2.2.2.2.2.2.2.2.2.2.1, hF.2.2.2.2.2.2.2.2.2.2.2.2.2.2.2.2.2.2.2.2.2.2.2.2.2.2.2.2.1, hF.2.2.2.2.2.2.2.2.2.2.2.2.2.2.2.2.2.2.2.2.2.2.2.2.2.2.2.2.2.1, hF.2.2.2.2.2.2.2.2.2.2.2.2.2.2.2.2.2.2.2.2.2.2.2.2.2.2.2.2.2.2⟩, hW⟩
      refine StepsI.cons rfl ?_ ?_
      · rintro L zA v9 ⟨zB, zS, rfl, rfl, hF, hW⟩ hL hm K hK
        have hb12 : zB 12 = false := by simpa using hL
        have hb10 : zB 10 = true := by cases e : zB 10 with | false => (exfalso; revert hm; simp [metB, Region.binds, e]) | true => rfl
        have e10 : zS 80 = .bool false := hF.2.2.2.2.2.2.2.2.2.2.1 hb10
        clear hL hm
        simp only [pCE]
        simp only [e10]
        obtain ⟨k0, k1⟩ := hA9 _ hW.1
        go_simp
        exact hK.out _ _ ⟨fun zj => if zj = 10 then true else if zj = 12 then true else zB zj, fun zd => if zd = 82 then .agg #[.int .i64 a, .int .i64 b] else if zd = 80 then .bool false else zS zd, by simp [hb10], by kernel_rfl, ⟨hF.1, hF.2.1, hF.2.2.1, hF.2.2.2.1, hF.2.2.2.2.1, hF.2.2.2.2.2.1, hF.2.2.2.2.2.2.1, hF.2.2.2.2.2.2.2.1, hF.2.2.2.2.2.2.2.2.1, hF.2.2.2.2.2.2.2.2.2.1, fun _ => rfl, hF.2.2.2.2.2.2.2.2.2.2.2.1, fun _ => rfl, hF.2.2.2.2.2.2.2.2.2.2.2.2.2.1, hF.2.2.2.2.2.2.2.2.2.2.2.2.2.2.1, hF.2.2.2.2.2.2.2.2.2.2.2.2.2.2.2.1, hF.2.2.2.2.2.2.2.2.2.2.2.2.2.2.2.2.1, hF.2.2.2.2.2.2.2.2.2.2.2.2.2.2.2.2.2.1, hF.2.2.2.2.2.2.2.2.2.2.2.2.2.2.2.2.2.2.1, hF.2.2.2.2.2.2.2.2.2.2.2.2.2.2.2.2.2.2.2.1, hF.2.2.2.2.2.2.2.2.2.2.2.2.2.2.2.2.2.2.2.2.1, hF.2.2.2.2.2.2.2.2.2.2.2.2.2.2.2.2.2.2.2.2.2.1, hF.2.2.2.2.2.2.2.2.2.2.2.2.2.2.2.2.2.2.2.2.2.2.1, hF.2.2.2.2.2.2.2.2.2.2.2.2.2.2.2.2.2.2.2.2.2.2.2.1, hF.2.2.2.2.2.2.2.2.2.2.2.2.2.2.2.2.2.2.2.2.2.2.2.2.1, hF.2.2.2.2.2.2.2.2.2.2.2.2.2.2.2.2.2.2.2.2.2.2.2.2.2.1, hF.2.2.2.2.2.2.2.2.2.2.2.2.2.2.2.2.2.2.2.2.2.2.2.2.2.2.1, hF.2.2.2.2.2.2.2.2.2.2.2.2.2.2.2.2.2.2.2.2.2.2.2.2.2.2.2.1, hF.2.2.2.2.2.2.2.2.2.2.2.2.2.2.2.2.2.2.2.2.2.2.2.2.2.2.2.2.1, hF.2.2.2.2.2.2.2.2.2.2.2.2.2.2.2.2.2.2.2.2.2.2.2.2.2.2.2.2.2.1, hF.2.2.2.2.2.2.2.2.2.2.2.2.2.2.2.2.2.2.2.2.2.2.2.2.2.2.2.2.2.2⟩, hW⟩
      refine StepsI.cons rfl ?_ ?_
      · rintro L zA v9 ⟨zB, zS, rfl, rfl, hF, hW⟩ hL hm K hK
        have hb13 : zB 13 = false := by simpa using hL
        have hb10 : zB 10 = true := by cases e : zB 10 with | false => (exfalso; revert hm; simp [metB, Region.binds, e]) | true => rfl
        have hb11 : zB 11 = true := by cases e : zB 11 with | false => (exfalso; revert hm; simp [metB, Region.binds, e]) | true => rfl
        have hb12 : zB 12 = true := by cases e : zB 12 with | false => (exfalso; revert hm; simp [metB, Region.binds, e]) | true => rfl
        have e10 : zS 80 = .bool false := hF.2.2.2.2.2.2.2.2.2.2.1 hb10
        have e11 : zS 81 = .agg #[.int .i64 m1, .int .i64 m2] := hF.2.2.2.2.2.2.2.2.2.2.2.1 hb11
        have e12 : zS 82 = .agg #[.int .i64 a, .int .i64 b] := hF.2.2.2.2.2.2.2.2.2.2.2.2.1 hb12
        clear hL hm
        simp only [pCE]
        simp only [e10, e11, e12]
        go_simp
        refine (iLeq_any m1 m2 a b _).mono ?_
        rintro e v92 ⟨rfl, hb⟩
        rw [OMA.out]
        go_wp2_with fail
        exact hK.out _ _ ⟨fun zj => if zj = 12 then true else if zj = 11 then true else if zj = 10 then true else if zj = 13 then true else zB zj, fun zd => if zd = 83 then .bool true else if zd = 82 then .agg #[.int .i64 a, .int .i64 b] else if zd = 81 then .agg #[.int .i64 m1, .int .i64 m2] else if zd = 80 then .bool false else zS zd, by simp [hb10, hb11, hb12], by kernel_rfl, ⟨hF.1, hF.2.1, hF.2.2.1, hF.2.2.2.1, hF.2.2.2.2.1, hF.2.2.2.2.2.1, hF.2.2.2.2.2.2.1, hF.2.2.2.2.2.2.2.1, hF.2.2.2.2.2.2.2.2.1, hF.2.2.2.2.2.2.2.2.2.1, fun _ => rfl, fun _ => rfl, fun _ => rfl, fun _ => rfl, hF.2.2.2.2.2.2.2.2.2.2.2.2.2.2.1, hF.2.2.2.2.2.2.2.2.2.2.2.2.2.2.2.1, hF.2.2.2.2.2.2.2.2.2.2.2.2.2.2.2.2.1, hF.2.2.2.2.2.2.2.2.2.2.2.2.2.2.2.2.2.1, hF.2.2.2.2.2.2.2.2.2.2.2.2.2.2.2.2.2.2.1, hF.2.2.2.2.2.2.2.2.2.2.2.2.2.2.2.2.2.2.2.1, hF.2.2.2.2.2.2.2.2.2.2.2.2.2.2.2.2.2.2.2.2.1, hF.2.2.2.2.2.2.2.2.2.2.2.2.2.2.2.2.2.2.2.2.2.1, hF.2.2.2.2.2.2.2.2.2.2.2.2.2.2.2.2.2.2.2.2.2.2.1, hF.2.2.2.2.2.2.2.2.2.2.2.2.2.2.2.2.2.2.2.2.2.2.2.1, hF.2.2.2.2.2.2.2.2.2.2.2.2.2.2.2.2.2.2.2.2.2.2.2.2.1, hF.2.2.2.2.2.2.2.2.2.2.2.2.2.2.2.2.2.2.2.2.2.2.2.2.2.1, hF.2.2.2.2.2.2.2.2.2.2.2.2.2.2.2.2.2.2.2.2.2.2.2.2.2.2.1, hF.2.2.2.2.2.2.2.2.2.2.2.2.2.2.2.2.2.2.2.2.2.2.2.2.2.2.2.1, hF.2.2.2.2.2.2.2.2.2.2.2.2.2.2.2.2.2.2.2.2.2.2.2.2.2.2.2.2.1, hF.2.2.2.2.2.2.2.2.2.2.2.2.2.2.2.2.2.2.2.2.2.2.2.2.2.2.2.2.2.1, hF.2.2.2.2.2.2.2.2.2.2.2.2.2.2.2.2.2.2.2.2.2.2.2.2.2.2.2.2.2.2⟩, ⟨below_step hW.1 hb, trivial⟩⟩
      refine StepsI.cons rfl ?_ ?_
      · rintro L zA v9 ⟨zB, zS, rfl, rfl, hF, hW⟩ hL hm K hK
        have hb14 : zB 14 = false := by simpa using hL
        have hb10 : zB 10 = true := by cases e : zB 10 with | false => (exfalso; revert hm; simp [metB, Region.binds, e]) | true => rfl
        have hb13 : zB 13 = true := by cases e : zB 13 with | false => (exfalso; revert hm; simp [metB, Region.binds, e]) | true => rfl
        have e10 : zS 80 = .bool false := hF.2.2.2.2.2.2.2.2.2.2.1 hb10
        have e13 : zS 83 = .bool true := hF.2.2.2.2.2.2.2.2.2.2.2.2.2.1 hb13
        clear hL hm
        simp only [pCE]
        simp only [e10, e13]
        go_simp
        exact hK.out _ _ ⟨fun zj => if zj = 13 then true else if zj = 10 then true else if zj = 14 then true else zB zj, fun zd => if zd = 84 then .bool false else if zd = 83 then .bool true else if zd = 80 then .bool false else zS zd, by simp [hb10, hb13], by kernel_rfl, ⟨hF.1, hF.2.1, hF.2.2.1, hF.2.2.2.1, hF.2.2.2.2.1, hF.2.2.2.2.2.1, hF.2.2.2.2.2.2.1, hF.2.2.2.2.2.2.2.1, hF.2.2.2.2.2.2.2.2.1, hF.2.2.2.2.2.2.2.2.2.1, fun _ => rfl, hF.2.2.2.2.2.2.2.2.2.2.2.1, hF.2.2.2.2.2.2.2.2.2.2.2.2.1, fun _ => rfl, fun _ => rfl, hF.2.2.2.2.2.2.2.2.2.2.2.2.2.2.2.1, hF.2.2.2.2.2.2.2.2.2.2.2.2.2.2.2.2.1, hF.2.2.2.2.2.2.2.2.2.2.2.2.2.2.2.2.2.1, hF.2.2.2.2.2.2.2.2.2.2.2.2.2.2.2.2.2.2.1, hF.2.2.2.2.2.2.2.2.2.2.2.2.2.2.2.2.2.2.2.1, hF.2.2.2.2.2.2.2.2.2.2.2.2.2.2.2.2.2.2.2.2.1, hF.2.2.2.2.2.2.2.2.2.2.2.2.2.2.2.2.2.2.2.2.2.1, hF.2.2.2.2.2.2.2.2.2.2.2.2.2.2.2.2.2.2.2.2.2.2.1, hF.2.2.2.2.2.2.2.2.2.2.2.2.2.2.2.2.2.2.2.2.2.2.2.1, hF.2.2.2.2.2.2.2.2.2.2.2.2.2.2.2.2.2.2.2.2.2.2.2.2.1, hF.2.2.2.2.2.2.2.2.2.2.2.2.2.2.2.2.2.2.2.2.2.2.2.2.2.1, hF.2.2.2.2.2.2.2.2.2.2.2.2.2.2.2.2.2.2.2.2.2.2.2.2.2.2.1, hF.2.2.2.2.2.2.2.2.2.2.2.2.2.2.2.2.2.2.2.2.2.2.2.2.2.2.2.1, hF.2.2.2.2.2.2.2.2.2.2.2.2.2.2.2.2.2.2.2.2.2.2.2.2.2.2.2.2.1, hF.2.2.2.2.2.2.2.2.2.2.2.2.2.2.2.2.2.2.2.2.2.2.2.2.2.2.2.2.2.1, hF.2.2.2.2.2.2.2.2.2.2.2.2.2.2.2.2.2.2.2.2.2.2.2.2.2.2.2.2.2.2⟩, hW⟩
      refine StepsI.cons rfl ?_ ?_
      · rintro L zA v9 ⟨zB, zS, rfl, rfl, hF, hW⟩ hL hm K hK
        have hb15 : zB 15 = false := by simpa using hL
        have hb10 : zB 10 = true := by cases e : zB 10 with | false => (exfalso; revert hm; simp [metB, Region.binds, e]) | true => rfl
        have hb14 : zB 14 = true := by cases e : zB 14 with | false => (exfalso; revert hm; simp [metB, Region.binds, e]) | true => rfl
        have e10 : zS 80 = .bool false := hF.2.2.2.2.2.2.2.2.2.2.1 hb10
        have e14 : zS 84 = .bool false := hF.2.2.2.2.2.2.2.2.2.2.2.2.2.2.1 hb14
        clear hL hm
        simp only [pCE]
        simp only [e10, e14]
        go_simp
        exact hK.out _ _ ⟨fun zj => if zj = 14 then true else if zj = 10 then true else if zj = 15 then true else zB zj, fun zd => if zd = 85 then .bool false else if zd = 84 then .bool false else if zd = 80 then .bool false else zS zd, by simp [hb10, hb14], by kernel_rfl, ⟨hF.1, hF.2.1, hF.2.2.1, hF.2.2.2.1, hF.2.2.2.2.1, hF.2.2.2.2.2.1, hF.2.2.2.2.2.2.1, hF.2.2.2.2.2.2.2.1, hF.2.2.2.2.2.2.2.2.1, hF.2.2.2.2.2.2.2.2.2.1, fun _ => rfl, hF.2.2.2.2.2.2.2.2.2.2.2.1, hF.2.2.2.2.2.2.2.2.2.2.2.2.1, hF.2.2.2.2.2.2.2.2.2.2.2.2.2.1, fun _ => rfl, fun _ => rfl, hF.2.2.2.2.2.2.2.2.2.2.2.2.2.2.2.2.1, hF.2.2.2.2.2.2.2.2.2.2.2.2.2.2.2.2.2.1, hF.2.2.2.2.2.2.2.2.2.2.2.2.2.2.2.2.2.2.1, hF.2.2.2.2.2.2.2.2.2.2.2.2.2.2.2.2.2.2.2.1, hF.2.2.2.2.2.2.2.2.2.2.2.2.2.2.2.2.2.2.2.2.1, hF.2.2.2.2.2.2.2.2.2.2.2.2.2.2.2.2.2.2.2.2.2.1, hF.2.2.2.2.2.2.2.2.2.2.2.2.2.2.2.2.2.2.2.2.2.2.1, hF.2.2.2.2.2.2.2.2.2.2.2.2.2.2.2.2.2.2.2.2.2.2.2.1, hF.2.2.2.2.2.2.2.2.2.2.2.2.2.2.2.2.2.2.2.2.2.2.2.2.1, hF.2.2.2.2.2.2.2.2.2.2.2.2.2.2.2.2.2.2.2.2.2.2.2.2.2.1, hF.2.2.2.2.2.2.2.2.2.2.2.2.2.2.2.2.2.2.2.2.2.2.2.2.2.2.1, hF.2.2.2.2.2.2.2.2.2.2.2.2.2.2.2.2.2.2.2.2.2.2.2.2.2.2.2.1, hF.2.2.2.2.2.2.2.2.2.2.2.2.2.2.2.2.2.2.2.2.2.2.2.2.2.2.2.2.1, hF.2.2.2.2.2.2.2.2.2.2.2.2.2.2.2.2.2.2.2.2.2.2.2.2.2.2.2.2.2.1, hF.2.2.2.2.2.2.2.2.2.2.2.2.2.2.2.2.2.2.2.2.2.2.2.2.2.2.2.2.2.2⟩, hW⟩
      refine StepsI.cons rfl ?_ ?_
      · rintro L zA v9 ⟨zB, zS, rfl, rfl, hF, hW⟩ hL hm K hK
        have hb16 : zB 16 = false := by simpa using hL
        have hb15 : zB 15 = true := by cases e : zB 15 with | false => (exfalso; revert hm; simp [metB, Region.binds, e]) | true => rfl
        have e15 : zS 85 = .bool false := hF.2.2.2.2.2.2.2.2.2.2.2.2.2.2.2.1 hb15
        clear hL hm
        simp only [pCE]
        simp only [e15]
        go_simp
        exact hK.out _ _ ⟨fun zj => if zj = 15 then true else if zj = 16 then true else zB zj, fun zd => if zd = 86 then .bool false else if zd = 85 then .bool false else zS zd, by simp [hb15], by kernel_rfl, ⟨hF.1, hF.2.1, hF.2.2.1, hF.2.2.2.1, hF.2.2.2.2.1, hF.2.2.2.2.2.1, hF.2.2.2.2.2.2.1, hF.2.2.2.2.2.2.2.1, hF.2.2.2.2.2.2.2.2.1, hF.2.2.2.2.2.2.2.2.2.1, hF.2.2.2.2.2.2.2.2.2.2.1, hF.2.2.2.2.2.2.2.2.2.2.2.1, hF.2.2.2.2.2.2.2.2.2.2.2.2.1, hF.2.2.2.2.2.2.2.2.2.2.2.2.2.1, hF.2.2.2.2.2.2.2.2.2.2.2.2.2.2.1, fun _ => rfl, fun _ => rfl, hF.2.2.2.2.2.2.2.2.2.2.2.2.2.2.2.2.2.1, hF.2.2.2.2.2.2.2.2.2.2.2.2.2.2.2.2.2.2.1, hF.2.2.2.2.2.2.2.2.2.2.2.2.2.2.2.2.2.2.2.1, hF.2.2.2.2.2.2.2.2.2.2.2.2.2.2.2.2.2.2.2.2.1, hF.2.2.2.2.2.2.2.2.2.2.2.2.2.2.2.2.2.2.2.2.2.1, hF.2.2.2.2.2.2.2.2.2.2.2.2.2.2.2.2.2.2.2.2.2.2.1, hF.2.2.2.2.2.2.2.2.2.2.2.2.2.2.2.2.2.2.2.2.2.2.2.1, hF.2.2.2.2.2.2.2.2.2.2.2.2.2.2.2.2.2.2.2.2.2.2.2.2.1, hF.2.2.2.2.2.2.2.2.2.2.2.2.2.2.2.2.2.2.2.2.2.2.2.2.2.1, hF.2.2.2.2.2.2.2.2.2.2.2.2.2.2.2.2.2.2.2.2.2.2.2.2.2.2.1, hF.2.2.2.2.2.2.2.2.2.2.2.2.2.2.2.2.2.2.2.2.2.2.2.2.2.2.2.1, hF.2.2.2.2.2.2.2.2.2.2.2.2.2.2.2.2.2.2.2.2.2.2.2.2.2.2.2.2.1, hF.2.2.2.2.2.2.2.2.2.2.2.2.2.2.2.2.2.2.2.2.2.2.2.2.2.2.2.2.2.1, hF.2.2.2.2.2.2.2.2.2.2.2.2.2.2.2.2.2.2.2.2.2.2.2.2.2.2.2.2.2.2⟩, hW⟩
      refine StepsI.cons rfl ?_ ?_
      · rintro L zA v9 ⟨zB, zS, rfl, rfl, hF, hW⟩ hL hm K hK
        have hb17 : zB 17 = false := by simpa using hL
        have hb16 : zB 16 = true := by cases e : zB 16 with | false => (exfalso; revert hm; simp [metB, Region.binds, e]) | true => rfl
        have e16 : zS 86 = .bool false := hF.2.2.2.2.2.2.2.2.2.2.2.2.2.2.2.2.1 hb16
        clear hL hm
        simp only [pCE]
        simp only [e16]
        obtain ⟨k0, k1⟩ := hM9 _ hW.1
        go_simp
        exact hK.out _ _ ⟨fun zj => if zj = 16 then true else if zj = 17 then true else zB zj, fun zd => if zd = 87 then .agg #[.int .i64 m1, .int .i64 m2] else if zd = 86 then .bool false else zS zd, by simp [hb16], by kernel_rfl, ⟨hF.1, hF.2.1, hF.2.2.1, hF.2.2.2.1, hF.2.2.2.2.1, hF.2.2.2.2.2.1, hF.2.2.2.2.2.2.1, hF.2.2.2.2.2.2.2.1, hF.2.2.2.2.2.2.2.2.1, hF.2.2.2.2.2.2.2.2.2.1, hF.2.2.2.2.2.2.2.2.2.2.1, hF.2.2.2.2.2.2.2.2.2.2.2.1, hF.2.2.2.2.2.2.2.2.2.2.2.2.1, hF.2.2.2.2.2.2.2.2.2.2.2.2.2.1, hF.2.2.2.2.2.2.2.2.2.2.2.2.2.2.1, hF.2.2.2.2.2.2.2.2.2.2.2.2.2.2.2.1, fun _ => rfl, fun _ => rfl, hF.2.2.2.2.2.2.2.2.2.2.2.2.2.2.2.2.2.2.1, hF.2.2.2.2.2.2.2.2.2.2.2.2.2.2.2.2.2.2.2.1, hF.2.2.2.2.2.2.2.2.2.2.2.2.2.2.2.2.2.2.2.2.1, hF.2.2.2.2.2.2.2.2.2.2.2.2.2.2.2.2.2.2.2.2.2.1, hF.2.2.2.2.2.2.2.2.2.2.2.2.2.2.2.2.2.2.2.2.2.2.1, hF.2.2.2.2.2.2.2.2.2.2.2.2.2.2.2.2.2.2.2.2.2.2.2.1, hF.2.2.2.2.2.2.2.2.2.2.2.2.2.2.2.2.2.2.2.2.2.2.2.2.1, hF.2.2.2.2.2.2.2.2.2.2.2.2.2.2.2.2.2.2.2.2.2.2.2.2.2.1, hF.2.2.2.2.2.2.2.2.2.2.2.2.2.2.2.2.2.2.2.2.2.2.2.2.2.2.1, hF.2.2.2.2.2.2.2.2.2.2.2.2.2.2.2.2.2.2.2.2.2.2.2.2.2.2.2.1, hF.2.2.2.2.2.2.2.2.2.2.2.2.2.2.2.2.2.2.2.2.2.2.2.2.2.2.2.2.1, hF.2.2.2.2.2.2.2.2.2.2.2.2.2.2.2.2.2.2.2.2.2.2.2.2.2.2.2.2.2.1, hF.2.2.2.2.2.2.2.2.2.2.2.2.2.2.2.2.2.2.2.2.2.2.2.2.2.2.2.2.2.2⟩, hW⟩
      refine StepsI.cons rfl ?_ ?_
      · rintro L zA v9 ⟨zB, zS, rfl, rfl, hF, hW⟩ hL hm K hK
        have hb18 : zB 18 = false := by simpa using hL
        have hb16 : zB 16 = true := by cases e : zB 16 with | false => (exfalso; revert hm; simp [metB, Region.binds, e]) | true => rfl
        have e16 : zS 86 = .bool false := hF.2.2.2.2.2.2.2.2.2.2.2.2.2.2.2.2.1 hb16
        clear hL hm
        simp only [pCE]
        simp only [e16]
        obtain ⟨k0, k1⟩ := hB9 _ hW.1
        go_simp
        exact hK.out _ _ ⟨fun zj => if zj = 16 then true else if zj = 18 then true else zB zj, fun zd => if zd = 88 then .agg #[.int .i64 c, .int .i64 d] else if zd = 86 then .bool false else zS zd, by simp [hb16], by kernel_rfl, ⟨hF.1, hF.2.1, hF.2.2.1, hF.2.2.2.1, hF.2.2.2.2.1, hF.2.2.2.2.2.1, hF.2.2.2.2.2.2.1, hF.2.2.2.2.2.2.2.1, hF.2.2.2.2.2.2.2.2.1, hF.2.2.2.2.2.2.2.2.2.1, hF.2.2.2.2.2.2.2.2.2.2.1, hF.2.2.2.2.2.2.2.2.2.2.2.1, hF.2.2.2.2.2.2.2.2.2.2.2.2.1, hF.2.2.2.2.2.2.2.2.2.2.2.2.2.1, hF.2.2.2.2.2.2.2.2.2.2.2.2.2.2.1, hF.2.2.2.2.2.2.2.2.2.2.2.2.2.2.2.1, fun _ => rfl, hF.2.2.2.2.2.2.2.2.2.2.2.2.2.2.2.2.2.1, fun _ => rfl, hF.2.2.2.2.2.2.2.2.2.2.2.2.2.2.2.2.2.2.2.1, hF.2.2.2.2.2.2.2.2.2.2.2.2.2.2.2.2.2.2.2.2.1, hF.2.2.2.2.2.2.2.2.2.2.2.2.2.2.2.2.2.2.2.2.2.1, hF.2.2.2.2.2.2.2.2.2.2.2.2.2.2.2.2.2.2.2.2.2.2.1, hF.2.2.2.2.2.2.2.2.2.2.2.2.2.2.2.2.2.2.2.2.2.2.2.1, hF.2.2.2.2.2.2.2.2.2.2.2.2.2.2.2.2.2.2.2.2.2.2.2.2.1, hF.2.2.2.2.2.2.2.2.2.2.2.2.2.2.2.2.2.2.2.2.2.2.2.2.2.1, hF.2.2.2.2.2.2.2.2.2.2.2.2.2.2.2.2.2.2.2.2.2.2.2.2.2.2.1, hF.2.2.2.2.2.2.2.2.2.2.2.2.2.2.2.2.2.2.2.2.2.2.2.2.2.2.2.1, hF.2.2.2.2.2.2.2.2.2.2.2.2.2.2.2.2.2.2.2.2.2.2.2.2.2.2.2.2.1, hF.2.2.2.2.2.2.2.2.2.2.2.2.2.2.2.2.2.2.2.2.2.2.2.2.2.2.2.2.2.1, hF.2.2.2.2.2.2.2.2.2.2.2.2.2.2.2.2.2.2.2.2.2.2.2.2.2.2.2.2.2.2⟩, hW⟩
      refine StepsI.cons rfl ?_ ?_
      · rintro L zA v9 ⟨zB, zS, rfl, rfl, hF, hW⟩ hL hm K hK
        have hb19 : zB 19 = false := by simpa using hL
        have hb16 : zB 16 = true := by cases e : zB 16 with | false => (exfalso; revert hm; simp [metB, Region.binds, e]) | true => rfl
        have hb17 : zB 17 = true := by cases e : zB 17 with | false => (exfalso; revert hm; simp [metB, Region.binds, e]) | true => rfl
        have hb18 : zB 18 = true := by cases e : zB 18 with | false => (exfalso; revert hm; simp [metB, Region.binds, e]) | true => rfl
        have e16 : zS 86 = .bool false := hF.2.2.2.2.2.2.2.2.2.2.2.2.2.2.2.2.1 hb16
        have e17 : zS 87 = .agg #[.int .i64 m1, .int .i64 m2] := hF.2.2.2.2.2.2.2.2.2.2.2.2.2.2.2.2.2.1 hb17
        have e18 : zS 88 = .agg #[.int .i64 c, .int .i64 d] := hF.2.2.2.2.2.2.2.2.2.2.2.2.2.2.2.2.2.2.1 hb18
        clear hL hm
        simp only [pCE]
        simp only [e16, e17, e18]
        go_simp
        refine (iLeq_any m1 m2 c d _).mono ?_
        rintro e v92 ⟨rfl, hb⟩
        rw [OMB.out]
        go_wp2_with fail
        exact hK.out _ _ ⟨fun zj => if zj = 18 then true else if zj = 17 then true else if zj = 16 then true else if zj = 19 then true else zB zj, fun zd => if zd = 89 then .bool true else if zd = 88 then .agg #[.int .i64 c, .int .i64 d] else if zd = 87 then .agg #[.int .i64 m1, .int .i64 m2] else if zd = 86 then .bool false else zS zd, by simp [hb16, hb17, hb18], by kernel_rfl, ⟨hF.1, hF.2.1, hF.2.2.1, hF.2.2.2.1, hF.2.2.2.2.1, hF.2.2.2.2.2.1, hF.2.2.2.2.2.2.1, hF.2.2.2.2.2.2.2.1, hF.2.2.2.2.2.2.2.2.1, hF.2.2.2.2.2.2.2.2.2.1, hF.2.2.2.2.2.2.2.2.2.2.1, hF.2.2.2.2.2.2.2.2.2.2.2.1, hF.2.2.2.2.2.2.2.2.2.2.2.2.1, hF.2.2.2.2.2.2.2.2.2.2.2.2.2.1, hF.2.2.2.2.2.2.2.2.2.2.2.2.2.2.1, hF.2.2.2.2.2.2.2.2.2.2.2.2.2.2.2.1, fun _ => rfl, fun _ => rfl, fun _ => rfl, fun _ => rfl, hF.2.2.2.2.2.2.2.2.2.2.2.2.2.2.2.2.2.2.2.2.1, hF.2.2.2.2.2.2.2.2.2.2.2.2.2.2.2.2.2.2.2.2.2.1, hF.2.2.2.2.2.2.2.2.2.2.2.2.2.2.2.2.2.2.2.2.2.2.1, hF.2.2.2.2.2.2.2.2.2.2.2.2.2.2.2.2.2.2.2.2.2.2.2.1, hF.2.2.2.2.2.2.2.2.2.2.2.2.2.2.2.2.2.2.2.2.2.2.2.2.1, hF.2.2.2.2.2.2.2.2.2.2.2.2.2.2.2.2.2.2.2.2.2.2.2.2.2.1, hF.2.2.2.2.2.2.2.2.2.2.2.2.2.2.2.2.2.2.2.2.2.2.2.2.2.2.1, hF.2.2.2.2.2.2.2.2.2.2.2.2.2.2.2.2.2.2.2.2.2.2.2.2.2.2.2.1, hF.2.2.2.2.2.2.2.2.2.2.2.2.2.2.2.2.2.2.2.2.2.2.2.2.2.2.2.2.1, hF.2.2.2.2.2.2.2.2.2.2.2.2.2.2.2.2.2.2.2.2.2.2.2.2.2.2.2.2.2.1, hF.2.2.2.2.2.2.2.2.2.2.2.2.2.2.2.2.2.2.2.2.2.2.2.2.2.2.2.2.2.2⟩, ⟨below_step hW.1 hb, trivial⟩⟩
      refine StepsI.cons rfl ?_ ?_
      · rintro L zA v9 ⟨zB, zS, rfl, rfl, hF, hW⟩ hL hm K hK
        have hb20 : zB 20 = false := by simpa using hL
        have hb16 : zB 16 = true := by cases e : zB 16 with | false => (exfalso; revert hm; simp [metB, Region.binds, e]) | true => rfl
        have hb19 : zB 19 = true := by cases e : zB 19 with | false => (exfalso; revert hm; simp [metB, Region.binds, e]) | true => rfl
        have e16 : zS 86 = .bool false := hF.2.2.2.2.2.2.2.2.2.2.2.2.2.2.2.2.1 hb16
        have e19 : zS 89 = .bool true := hF.2.2.2.2.2.2.2.2.2.2.2.2.2.2.2.2.2.2.2.1 hb19
        clear hL hm
        simp only [pCE]
        simp only [e16, e19]
        go_simp
        exact hK.out _ _ ⟨fun zj => if zj = 19 then true else if zj = 16 then true else if zj = 20 then true else zB zj, fun zd => if zd = 90 then .bool false else if zd = 89 then .bool true else if zd = 86 then .bool false else zS zd, by simp [hb16, hb19], by kernel_rfl, ⟨hF.1, hF.2.1, hF.2.2.1, hF.2.2.2.1, hF.2.2.2.2.1, hF.2.2.2.2.2.1, hF.2.2.2.2.2.2.1, hF.2.2.2.2.2.2.2.1, hF.2.2.2.2.2.2.2.2.1, hF.2.2.2.2.2.2.2.2.2.1, hF.2.2.2.2.2.2.2.2.2.2.1, hF.2.2.2.2.2.2.2.2.2.2.2.1, hF.2.2.2.2.2.2.2.2.2.2.2.2.1, hF.2.2.2.2.2.2.2.2.2.2.2.2.2.1, hF.2.2.2.2.2.2.2.2.2.2.2.2.2.2.1, hF.2.2.2.2.2.2.2.2.2.2.2.2.2.2.2.1, fun _ => rfl, hF.2.2.2.2.2.2.2.2.2.2.2.2.2.2.2.2.2.1, hF.2.2.2.2.2.2.2.2.2.2.2.2.2.2.2.2.2.2.1, fun _ => rfl, fun _ => rfl, hF.2.2.2.2.2.2.2.2.2.2.2.2.2.2.2.2.2.2.2.2.2.1, hF.2.2.2.2.2.2.2.2.2.2.2.2.2.2.2.2.2.2.2.2.2.2.1, hF.2.2.2.2.2.2.2.2.2.2.2.2.2.2.2.2.2.2.2.2.2.2.2.1, hF.2.2.2.2.2.2.2.2.2.2.2.2.2.2.2.2.2.2.2.2.2.2.2.2.1, hF.2.2.2.2.2.2.2.2.2.2.2.2.2.2.2.2.2.2.2.2.2.2.2.2.2.1, hF.2.2.2.2.2.2.2.2.2.2.2.2.2.2.2.2.2.2.2.2.2.2.2.2.2.2.1, hF.2.2.2.2.2.2.2.2.2.2.2.2.2.2.2.2.2.2.2.2.2.2.2.2.2.2.2.1, hF.2.2.2.2.2.2.2.2.2.2.2.2.2.2.2.2.2.2.2.2.2.2.2.2.2.2.2.2.1, hF.2.2.2.2.2.2.2.2.2.2.2.2.2.2.2.2.2.2.2.2.2.2.2.2.2.2.2.2.2.1, hF.2.2.2.2.2.2.2.2.2.2.2.2.2.2.2.2.2.2.2.2.2.2.2.2.2.2.2.2.2.2⟩, hW⟩
      refine StepsI.cons rfl ?_ ?_
      · rintro L zA v9 ⟨zB, zS, rfl, rfl, hF, hW⟩ hL hm K hK
        have hb21 : zB 21 = false := by simpa using hL
        have hb16 : zB 16 = true := by cases e : zB 16 with | false => (exfalso; revert hm; simp [metB, Region.binds, e]) | true => rfl
        have hb20 : zB 20 = true := by cases e : zB 20 with | false => (exfalso; revert hm; simp [metB, Region.binds, e]) | true => rfl
        have e16 : zS 86 = .bool false := hF.2.2.2.2.2.2.2.2.2.2.2.2.2.2.2.2.1 hb16
        have e20 : zS 90 = .bool false := hF.2.2.2.2.2.2.2.2.2.2.2.2.2.2.2.2.2.2.2.2.1 hb20
        clear hL hm
        simp only [pCE]
        simp only [e16, e20]
        go_simp
        exact hK.out _ _ ⟨fun zj => if zj = 20 then true else if zj = 16 then true else if zj = 21 then true else zB zj, fun zd => if zd = 91 then .bool false else if zd = 90 then .bool false else if zd = 86 then .bool false else zS zd, by simp [hb16, hb20], by kernel_rfl, ⟨hF.1, hF.2.1, hF.2.2.1, hF.2.2.2.1, hF.2.2.2.2.1, hF.2.2.2.2.2.1, hF.2.2.2.2.2.2.1, hF.2.2.2.2.2.2.2.1, hF.2.2.2.2.2.2.2.2.1, hF.2.2.2.2.2.2.2.2.2.1, hF.2.2.2.2.2.2.2.2.2.2.1, hF.2.2.2.2.2.2.2.2.2.2.2.1, hF.2.2.2.2.2.2.2.2.2.2.2.2.1, hF.2.2.2.2.2.2.2.2.2.2.2.2.2.1, hF.2.2.2.2.2.2.2.2.2.2.2.2.2.2.1, hF.2.2.2.2.2.2.2.2.2.2.2.2.2.2.2.1, fun _ => rfl, hF.2.2.2.2.2.2.2.2.2.2.2.2.2.2.2.2.2.1, hF.2.2.2.2.2.2.2.2.2.2.2.2.2.2.2.2.2.2.1, hF.2.2.2.2.2.2.2.2.2.2.2.2.2.2.2.2.2.2.2.1, fun _ => rfl, fun _ => rfl, hF.2.2.2.2.2.2.2.2.2.2.2.2.2.2.2.2.2.2.2.2.2.2.1, hF.2.2.2.2.2.2.2.2.2.2.2.2.2.2.2.2.2.2.2.2.2.2.2.1, hF.2.2.2.2.2.2.2.2.2.2.2.2.2.2.2.2.2.2.2.2.2.2.2.2.1, hF.2.2.2.2.2.2.2.2.2.2.2.2.2.2.2.2.2.2.2.2.2.2.2.2.2.1, hF.2.2.2.2.2.2.2.2.2.2.2.2.2.2.2.2.2.2.2.2.2.2.2.2.2.2.1, hF.2.2.2.2.2.2.2.2.2.2.2.2.2.2.2.2.2.2.2.2.2.2.2.2.2.2.2.1, hF.2.2.2.2.2.2.2.2.2.2.2.2.2.2.2.2.2.2.2.2.2.2.2.2.2.2.2.2.1, hF.2.2.2.2.2.2.2.2.2.2.2.2.2.2.2.2.2.2.2.2.2.2.2.2.2.2.2.2.2.1, hF.2.2.2.2.2.2.2.2.2.2.2.2.2.2.2.2.2.2.2.2.2.2.2.2.2.2.2.2.2.2⟩, hW⟩
      refine StepsI.cons rfl ?_ ?_
      · rintro L zA v9 ⟨zB, zS, rfl, rfl, hF, hW⟩ hL hm K hK
        have hb22 : zB 22 = false := by simpa using hL
        have hb21 : zB 21 = true := by cases e : zB 21 with | false => (exfalso; revert hm; simp [metB, Region.binds, e]) | true => rfl
        have e21 : zS 91 = .bool false := hF.2.2.2.2.2.2.2.2.2.2.2.2.2.2.2.2.2.2.2.2.2.1 hb21
        clear hL hm
        simp only [pCE]
        simp only [e21]
        go_simp
        exact hK.out _ _ ⟨fun zj => if zj = 21 then true else if zj = 22 then true else zB zj, fun zd => if zd = 92 then .bool false else if zd = 91 then .bool false else zS zd, by simp [hb21], by kernel_rfl, ⟨hF.1, hF.2.1, hF.2.2.1, hF.2.2.2.1, hF.2.2.2.2.1, hF.2.2.2.2.2.1, hF.2.2.2.2.2.2.1, hF.2.2.2.2.2.2.2.1, hF.2.2.2.2.2.2.2.2.1, hF.2.2.2.2.2.2.2.2.2.1, hF.2.2.2.2.2.2.2.2.2.2.1, hF.2.2.2.2.2.2.2.2.2.2.2.1, hF.2.2.2.2.2.2.2.2.2.2.2.2.1, hF.2.2.2.2.2.2.2.2.2.2.2.2.2.1, hF.2.2.2.2.2.2.2.2.2.2.2.2.2.2.1, hF.2.2.2.2.2.2.2.2.2.2.2.2.2.2.2.1, hF.2.2.2.2.2.2.2.2.2.2.2.2.2.2.2.2.1, hF.2.2.2.2.2.2.2.2.2.2.2.2.2.2.2.2.2.1, hF.2.2.2.2.2.2.2.2.2.2.2.2.2.2.2.2.2.2.1, hF.2.2.2.2.2.2.2.2.2.2.2.2.2.2.2.2.2.2.2.1, hF.2.2.2.2.2.2.2.2.2.2.2.2.2.2.2.2.2.2.2.2.1, fun _ => rfl, fun _ => rfl, hF.2.2.2.2.2.2.2.2.2.2.2.2.2.2.2.2.2.2.2.2.2.2.2.1, hF.2.2.2.2.2.2.2.2.2.2.2.2.2.2.2.2.2.2.2.2.2.2.2.2.1, hF.2.2.2.2.2.2.2.2.2.2.2.2.2.2.2.2.2.2.2.2.2.2.2.2.2.1, hF.2.2.2.2.2.2.2.2.2.2.2.2.2.2.2.2.2.2.2.2.2.2.2.2.2.2.1, hF.2.2.2.2.2.2.2.2.2.2.2.2.2.2.2.2.2.2.2.2.2.2.2.2.2.2.2.1, hF.2.2.2.2.2.2.2.2.2.2.2.2.2.2.2.2.2.2.2.2.2.2.2.2.2.2.2.2.1, hF.2.2.2.2.2.2.2.2.2.2.2.2.2.2.2.2.2.2.2.2.2.2.2.2.2.2.2.2.2.1, hF.2.2.2.2.2.2.2.2.2.2.2.2.2.2.2.2.2.2.2.2.2.2.2.2.2.2.2.2.2.2⟩, hW⟩
      refine StepsI.cons rfl ?_ ?_
      · rintro L zA v9 ⟨zB, zS, rfl, rfl, hF, hW⟩ hL hm K hK
        have hb23 : zB 23 = false := by simpa using hL
        have hb22 : zB 22 = true := by cases e : zB 22 with | false => (exfalso; revert hm; simp [metB, Region.binds, e]) | true => rfl
        have e22 : zS 92 = .bool false := hF.2.2.2.2.2.2.2.2.2.2.2.2.2.2.2.2.2.2.2.2.2.2.1 hb22
        clear hL hm
        simp only [pCE]
        simp only [e22]
        obtain ⟨k0, k1⟩ := hA9 _ hW.1
        go_simp
        exact hK.out _ _ ⟨fun zj => if zj = 22 then true else if zj = 23 then true else zB zj, fun zd => if zd = 93 then .agg #[.int .i64 a, .int .i64 b] else if zd = 92 then .bool false else zS zd, by simp [hb22], by kernel_rfl, ⟨hF.1, hF.2.1, hF.2.2.1, hF.2.2.2.1, hF.2.2.2.2.1, hF.2.2.2.2.2.1, hF.2.2.2.2.2.2.1, hF.2.2.2.2.2.2.2.1, hF.2.2.2.2.2.2.2.2.1, hF.2.2.2.2.2.2.2.2.2.1, hF.2.2.2.2.2.2.2.2.2.2.1, hF.2.2.2.2.2.2.2.2.2.2.2.1, hF.2.2.2.2.2.2.2.2.2.2.2.2.1, hF.2.2.2.2.2.2.2.2.2.2.2.2.2.1, hF.2.2.2.2.2.2.2.2.2.2.2.2.2.2.1, hF.2.2.2.2.2.2.2.2.2.2.2.2.2.2.2.1, hF.2.2.2.2.2.2.2.2.2.2.2.2.2.2.2.2.1, hF.2.2.2.2.2.2.2.2.2.2.2.2.2.2.2.2.2.1, hF.2.2.2.2.2.2.2.2.2.2.2.2.2.2.2.2.2.2.1, hF.2.2.2.2.2.2.2.2.2.2.2.2.2.2.2.2.2.2.2.1, hF.2.2.2.2.2.2.2.2.2.2.2.2.2.2.2.2.2.2.2.2.1, hF.2.2.2.2.2.2.2.2.2.2.2.2.2.2.2.2.2.2.2.2.2.1, fun _ => rfl, fun _ => rfl, hF.2.2.2.2.2.2.2.2.2.2.2.2.2.2.2.2.2.2.2.2.2.2.2.2.1, hF.2.2.2.2.2.2.2.2.2.2.2.2.2.2.2.2.2.2.2.2.2.2.2.2.2.1, hF.2.2.2.2.2.2.2.2.2.2.2.2.2.2.2.2.2.2.2.2.2.2.2.2.2.2.1, hF.2.2.2.2.2.2.2.2.2.2.2.2.2.2.2.2.2.2.2.2.2.2.2.2.2.2.2.1, hF.2.2.2.2.2.2.2.2.2.2.2.2.2.2.2.2.2.2.2.2.2.2.2.2.2.2.2.2.1, hF.2.2.2.2.2.2.2.2.2.2.2.2.2.2.2.2.2.2.2.2.2.2.2.2.2.2.2.2.2.1, hF.2.2.2.2.2.2.2.2.2.2.2.2.2.2.2.2.2.2.2.2.2.2.2.2.2.2.2.2.2.2⟩, hW⟩
      refine StepsI.cons rfl ?_ ?_
      · rintro L zA v9 ⟨zB, zS, rfl, rfl, hF, hW⟩ hL hm K hK
        have hb24 : zB 24 = false := by simpa using hL
        have hb22 : zB 22 = true := by cases e : zB 22 with | false => (exfalso; revert hm; simp [metB, Region.binds, e]) | true => rfl
        have e22 : zS 92 = .bool false := hF.2.2.2.2.2.2.2.2.2.2.2.2.2.2.2.2.2.2.2.2.2.2.1 hb22
        clear hL hm
        simp only [pCE]
        simp only [e22]
        obtain ⟨k0, k1⟩ := hB9 _ hW.1
        go_simp
        exact hK.out _ _ ⟨fun zj => if zj = 22 then true else if zj = 24 then true else zB zj, fun zd => if zd = 94 then .agg #[.int .i64 c, .int .i64 d] else if zd = 92 then .bool false else zS zd, by simp [hb22], by kernel_rfl, ⟨hF.1, hF.2.1, hF.2.2.1, hF.2.2.2.1, hF.2.2.2.2.1, hF.2.2.2.2.2.1, hF.2.2.2.2.2.2.1, hF.2.2.2.2.2.2.2.1, hF.2.2.2.2.2.2.2.2.1, hF.2.2.2.2.2.2.2.2.2.1, hF.2.2.2.2.2.2.2.2.2.2.1, hF.2.2.2.2.2.2.2.2.2.2.2.1, hF.2.2.2.2.2.2.2.2.2.2.2.2.1, hF.2.2.2.2.2.2.2.2.2.2.2.2.2.1, hF.2.2.2.2.2.2.2.2.2.2.2.2.2.2.1, hF.2.2.2.2.2.2.2.2.2.2.2.2.2.2.2.1, hF.2.2.2.2.2.2.2.2.2.2.2.2.2.2.2.2.1, hF.2.2.2.2.2.2.2.2.2.2.2.2.2.2.2.2.2.1, hF.2.2.2.2.2.2.2.2.2.2.2.2.2.2.2.2.2.2.1, hF.2.2.2.2.2.2.2.2.2.2.2.2.2.2.2.2.2.2.2.1, hF.2.2.2.2.2.2.2.2.2.2.2.2.2.2.2.2.2.2.2.2.1, hF.2.2.2.2.2.2.2.2.2.2.2.2.2.2.2.2.2.2.2.2.2.1, fun _ => rfl, hF.2.2.2.2.2.2.2.2.2.2.2.2.2.2.2.2.2.2.2.2.2.2.2.1, fun _ => rfl, hF.2.2.2.2.2.2.2.2.2.2.2.2.2.2.2.2.2.2.2.2.2.2.2.2.2.1, hF.2.2.2.2.2.2.2.2.2.2.2.2.2.2.2.2.2.2.2.2.2.2.2.2.2.2.1, hF.2.2.2.2.2.2.2.2.2.2.2.2.2.2.2.2.2.2.2.2.2.2.2.2.2.2.2.1, hF.2.2.2.2.2.2.2.2.2.2.2.2.2.2.2.2.2.2.2.2.2.2.2.2.2.2.2.2.1, hF.2.2.2.2.2.2.2.2.2.2.2.2.2.2.2.2.2.2.2.2.2.2.2.2.2.2.2.2.2.1, hF.2.2.2.2.2.2.2.2.2.2.2.2.2.2.2.2.2.2.2.2.2.2.2.2.2.2.2.2.2.2⟩, hW⟩
      refine StepsI.cons rfl ?_ ?_
      · rintro L zA v9 ⟨zB, zS, rfl, rfl, hF, hW⟩ hL hm K hK
        have hb25 : zB 25 = false := by simpa using hL
        have hb22 : zB 22 = true := by cases e : zB 22 with | false => (exfalso; revert hm; simp [metB, Region.binds, e]) | true => rfl
        have hb23 : zB 23 = true := by cases e : zB 23 with | false => (exfalso; revert hm; simp [metB, Region.binds, e]) | true => rfl
        have hb24 : zB 24 = true := by cases e : zB 24 with | false => (exfalso; revert hm; simp [metB, Region.binds, e]) | true => rfl
        have e22 : zS 92 = .bool false := hF.2.2.2.2.2.2.2.2.2.2.2.2.2.2.2.2.2.2.2.2.2.2.1 hb22
        have e23 : zS 93 = .agg #[.int .i64 a, .int .i64 b] := hF.2.2.2.2.2.2.2.2.2.2.2.2.2.2.2.2.2.2.2.2.2.2.2.1 hb23
        have e24 : zS 94 = .agg #[.int .i64 c, .int .i64 d] := hF.2.2.2.2.2.2.2.2.2.2.2.2.2.2.2.2.2.2.2.2.2.2.2.2.1 hb24
        clear hL hm
        simp only [pCE]
        simp only [e22, e23, e24]
        go_simp
        refine (iLeq_any a b c d _).mono ?_
        rintro e v92 ⟨rfl, hb⟩
        rw [HLQ.out]
        go_wp2_with fail
        exact hK.out _ _ ⟨fun zj => if zj = 24 then true else if zj = 23 then true else if zj = 22 then true else if zj = 25 then true else zB zj, fun zd => if zd = 95 then .bool lq else if zd = 94 then .agg #[.int .i64 c, .int .i64 d] else if zd = 93 then .agg #[.int .i64 a, .int .i64 b] else if zd = 92 then .bool false else zS zd, by simp [hb22, hb23, hb24], by kernel_rfl, ⟨hF.1, hF.2.1, hF.2.2.1, hF.2.2.2.1, hF.2.2.2.2.1, hF.2.2.2.2.2.1, hF.2.2.2.2.2.2.1, hF.2.2.2.2.2.2.2.1, hF.2.2.2.2.2.2.2.2.1, hF.2.2.2.2.2.2.2.2.2.1, hF.2.2.2.2.2.2.2.2.2.2.1, hF.2.2.2.2.2.2.2.2.2.2.2.1, hF.2.2.2.2.2.2.2.2.2.2.2.2.1, hF.2.2.2.2.2.2.2.2.2.2.2.2.2.1, hF.2.2.2.2.2.2.2.2.2.2.2.2.2.2.1, hF.2.2.2.2.2.2.2.2.2.2.2.2.2.2.2.1, hF.2.2.2.2.2.2.2.2.2.2.2.2.2.2.2.2.1, hF.2.2.2.2.2.2.2.2.2.2.2.2.2.2.2.2.2.1, hF.2.2.2.2.2.2.2.2.2.2.2.2.2.2.2.2.2.2.1, hF.2.2.2.2.2.2.2.2.2.2.2.2.2.2.2.2.2.2.2.1, hF.2.2.2.2.2.2.2.2.2.2.2.2.2.2.2.2.2.2.2.2.1, hF.2.2.2.2.2.2.2.2.2.2.2.2.2.2.2.2.2.2.2.2.2.1, fun _ => rfl, fun _ => rfl, fun _ => rfl, fun _ => rfl, hF.2.2.2.2.2.2.2.2.2.2.2.2.2.2.2.2.2.2.2.2.2.2.2.2.2.2.1, hF.2.2.2.2.2.2.2.2.2.2.2.2.2.2.2.2.2.2.2.2.2.2.2.2.2.2.2.1, hF.2.2.2.2.2.2.2.2.2.2.2.2.2.2.2.2.2.2.2.2.2.2.2.2.2.2.2.2.1, hF.2.2.2.2.2.2.2.2.2.2.2.2.2.2.2.2.2.2.2.2.2.2.2.2.2.2.2.2.2.1, hF.2.2.2.2.2.2.2.2.2.2.2.2.2.2.2.2.2.2.2.2.2.2.2.2.2.2.2.2.2.2⟩, ⟨below_step hW.1 hb, trivial⟩⟩
      refine StepsI.cons rfl ?_ ?_
      · rintro L zA v9 ⟨zB, zS, rfl, rfl, hF, hW⟩ hL hm K hK
        have hb26 : zB 26 = false := by simpa using hL
        have hb22 : zB 22 = true := by cases e : zB 22 with | false => (exfalso; revert hm; simp [metB, Region.binds, e]) | true => rfl
        have e22 : zS 92 = .bool false := hF.2.2.2.2.2.2.2.2.2.2.2.2.2.2.2.2.2.2.2.2.2.2.1 hb22
        clear hL hm
        simp only [pCE]
        simp only [e22]
        obtain ⟨k0, k1⟩ := hJ9 _ hW.1
        go_simp
        exact hK.out _ _ ⟨fun zj => if zj = 22 then true else if zj = 26 then true else zB zj, fun zd => if zd = 96 then .agg #[.int .i64 j1, .int .i64 j2] else if zd = 92 then .bool false else zS zd, by simp [hb22], by kernel_rfl, ⟨hF.1, hF.2.1, hF.2.2.1, hF.2.2.2.1, hF.2.2.2.2.1, hF.2.2.2.2.2.1, hF.2.2.2.2.2.2.1, hF.2.2.2.2.2.2.2.1, hF.2.2.2.2.2.2.2.2.1, hF.2.2.2.2.2.2.2.2.2.1, hF.2.2.2.2.2.2.2.2.2.2.1, hF.2.2.2.2.2.2.2.2.2.2.2.1, hF.2.2.2.2.2.2.2.2.2.2.2.2.1, hF.2.2.2.2.2.2.2.2.2.2.2.2.2.1, hF.2.2.2.2.2.2.2.2.2.2.2.2.2.2.1, hF.2.2.2.2.2.2.2.2.2.2.2.2.2.2.2.1, hF.2.2.2.2.2.2.2.2.2.2.2.2.2.2.2.2.1, hF.2.2.2.2.2.2.2.2.2.2.2.2.2.2.2.2.2.1, hF.2.2.2.2.2.2.2.2.2.2.2.2.2.2.2.2.2.2.1, hF.2.2.2.2.2.2.2.2.2.2.2.2.2.2.2.2.2.2.2.1, hF.2.2.2.2.2.2.2.2.2.2.2.2.2.2.2.2.2.2.2.2.1, hF.2.2.2.2.2.2.2.2.2.2.2.2.2.2.2.2.2.2.2.2.2.1, fun _ => rfl, hF.2.2.2.2.2.2.2.2.2.2.2.2.2.2.2.2.2.2.2.2.2.2.2.1, hF.2.2.2.2.2.2.2.2.2.2.2.2.2.2.2.2.2.2.2.2.2.2.2.2.1, hF.2.2.2.2.2.2.2.2.2.2.2.2.2.2.2.2.2.2.2.2.2.2.2.2.2.1, fun _ => rfl, hF.2.2.2.2.2.2.2.2.2.2.2.2.2.2.2.2.2.2.2.2.2.2.2.2.2.2.2.1, hF.2.2.2.2.2.2.2.2.2.2.2.2.2.2.2.2.2.2.2.2.2.2.2.2.2.2.2.2.1, hF.2.2.2.2.2.2.2.2.2.2.2.2.2.2.2.2.2.2.2.2.2.2.2.2.2.2.2.2.2.1, hF.2.2.2.2.2.2.2.2.2.2.2.2.2.2.2.2.2.2.2.2.2.2.2.2.2.2.2.2.2.2⟩, hW⟩
      refine StepsI.cons rfl ?_ ?_
      · rintro L zA v9 ⟨zB, zS, rfl, rfl, hF, hW⟩ hL hm K hK
        have hb27 : zB 27 = false := by simpa using hL
        have hb22 : zB 22 = true := by cases e : zB 22 with | false => (exfalso; revert hm; simp [metB, Region.binds, e]) | true => rfl
        have e22 : zS 92 = .bool false := hF.2.2.2.2.2.2.2.2.2.2.2.2.2.2.2.2.2.2.2.2.2.2.1 hb22
        clear hL hm
        simp only [pCE]
        simp only [e22]
        obtain ⟨k0, k1⟩ := hB9 _ hW.1
        go_simp
        exact hK.out _ _ ⟨fun zj => if zj = 22 then true else if zj = 27 then true else zB zj, fun zd => if zd = 97 then .agg #[.int .i64 c, .int .i64 d] else if zd = 92 then .bool false else zS zd, by simp [hb22], by kernel_rfl, ⟨hF.1, hF.2.1, hF.2.2.1, hF.2.2.2.1, hF.2.2.2.2.1, hF.2.2.2.2.2.1, hF.2.2.2.2.2.2.1, hF.2.2.2.2.2.2.2.1, hF.2.2.2.2.2.2.2.2.1, hF.2.2.2.2.2.2.2.2.2.1, hF.2.2.2.2.2.2.2.2.2.2.1, hF.2.2.2.2.2.2.2.2.2.2.2.1, hF.2.2.2.2.2.2.2.2.2.2.2.2.1, hF.2.2.2.2.2.2.2.2.2.2.2.2.2.1, hF.2.2.2.2.2.2.2.2.2.2.2.2.2.2.1, hF.2.2.2.2.2.2.2.2.2.2.2.2.2.2.2.1, hF.2.2.2.2.2.2.2.2.2.2.2.2.2.2.2.2.1, hF.2.2.2.2.2.2.2.2.2.2.2.2.2.2.2.2.2.1, hF.2.2.2.2.2.2.2.2.2.2.2.2.2.2.2.2.2.2.1, hF.2.2.2.2.2.2.2.2.2.2.2.2.2.2.2.2.2.2.2.1, hF.2.2.2.2.2.2.2.2.2.2.2.2.2.2.2.2.2.2.2.2.1, hF.2.2.2.2.2.2.2.2.2.2.2.2.2.2.2.2.2.2.2.2.2.1, fun _ => rfl, hF.2.2.2.2.2.2.2.2.2.2.2.2.2.2.2.2.2.2.2.2.2.2.2.1, hF.2.2.2.2.2.2.2.2.2.2.2.2.2.2.2.2.2.2.2.2.2.2.2.2.1, hF.2.2.2.2.2.2.2.2.2.2.2.2.2.2.2.2.2.2.2.2.2.2.2.2.2.1, hF.2.2.2.2.2.2.2.2.2.2.2.2.2.2.2.2.2.2.2.2.2.2.2.2.2.2.1, fun _ => rfl, hF.2.2.2.2.2.2.2.2.2.2.2.2.2.2.2.2.2.2.2.2.2.2.2.2.2.2.2.2.1, hF.2.2.2.2.2.2.2.2.2.2.2.2.2.2.2.2.2.2.2.2.2.2.2.2.2.2.2.2.2.1, hF.2.2.2.2.2.2.2.2.2.2.2.2.2.2.2.2.2.2.2.2.2.2.2.2.2.2.2.2.2.2⟩, hW⟩
      refine StepsI.cons rfl ?_ ?_
      · rintro L zA v9 ⟨zB, zS, rfl, rfl, hF, hW⟩ hL hm K hK
        have hb28 : zB 28 = false := by simpa using hL
        have hb22 : zB 22 = true := by cases e : zB 22 with | false => (exfalso; revert hm; simp [metB, Region.binds, e]) | true => rfl
        have hb26 : zB 26 = true := by cases e : zB 26 with | false => (exfalso; revert hm; simp [metB, Region.binds, e]) | true => rfl
        have hb27 : zB 27 = true := by cases e : zB 27 with | false => (exfalso; revert hm; simp [metB, Region.binds, e]) | true => rfl
        have e22 : zS 92 = .bool false := hF.2.2.2.2.2.2.2.2.2.2.2.2.2.2.2.2.2.2.2.2.2.2.1 hb22
        have e26 : zS 96 = .agg #[.int .i64 j1, .int .i64 j2] := hF.2.2.2.2.2.2.2.2.2.2.2.2.2.2.2.2.2.2.2.2.2.2.2.2.2.2.1 hb26
        have e27 : zS 97 = .agg #[.int .i64 c, .int .i64 d] := hF.2.2.2.2.2.2.2.2.2.2.2.2.2.2.2.2.2.2.2.2.2.2.2.2.2.2.2.1 hb27
        clear hL hm
        simp only [pCE]
        simp only [e22, e26, e27]
        have hEQ := eql_rng
        have hq9 := OEQ.out
        go_simp
        exact hK.out _ _ ⟨fun zj => if zj = 27 then true else if zj = 26 then true else if zj = 22 then true else if zj = 28 then true else zB zj, fun zd => if zd = 98 then .bool lq else if zd = 97 then .agg #[.int .i64 c, .int .i64 d] else if zd = 96 then .agg #[.int .i64 j1, .int .i64 j2] else if zd = 92 then .bool false else zS zd, by simp [hb22, hb26, hb27], by kernel_rfl, ⟨hF.1, hF.2.1, hF.2.2.1, hF.2.2.2.1, hF.2.2.2.2.1, hF.2.2.2.2.2.1, hF.2.2.2.2.2.2.1, hF.2.2.2.2.2.2.2.1, hF.2.2.2.2.2.2.2.2.1, hF.2.2.2.2.2.2.2.2.2.1, hF.2.2.2.2.2.2.2.2.2.2.1, hF.2.2.2.2.2.2.2.2.2.2.2.1, hF.2.2.2.2.2.2.2.2.2.2.2.2.1, hF.2.2.2.2.2.2.2.2.2.2.2.2.2.1, hF.2.2.2.2.2.2.2.2.2.2.2.2.2.2.1, hF.2.2.2.2.2.2.2.2.2.2.2.2.2.2.2.1, hF.2.2.2.2.2.2.2.2.2.2.2.2.2.2.2.2.1, hF.2.2.2.2.2.2.2.2.2.2.2.2.2.2.2.2.2.1, hF.2.2.2.2.2.2.2.2.2.2.2.2.2.2.2.2.2.2.1, hF.2.2.2.2.2.2.2.2.2.2.2.2.2.2.2.2.2.2.2.1, hF.2.2.2.2.2.2.2.2.2.2.2.2.2.2.2.2.2.2.2.2.1, hF.2.2.2.2.2.2.2.2.2.2.2.2.2.2.2.2.2.2.2.2.2.1, fun _ => rfl, hF.2.2.2.2.2.2.2.2.2.2.2.2.2.2.2.2.2.2.2.2.2.2.2.1, hF.2.2.2.2.2.2.2.2.2.2.2.2.2.2.2.2.2.2.2.2.2.2.2.2.1, hF.2.2.2.2.2.2.2.2.2.2.2.2.2.2.2.2.2.2.2.2.2.2.2.2.2.1, fun _ => rfl, fun _ => rfl, fun _ => rfl, hF.2.2.2.2.2.2.2.2.2.2.2.2.2.2.2.2.2.2.2.2.2.2.2.2.2.2.2.2.2.1, hF.2.2.2.2.2.2.2.2.2.2.2.2.2.2.2.2.2.2.2.2.2.2.2.2.2.2.2.2.2.2⟩, hW⟩
      refine StepsI.cons rfl ?_ ?_
      · rintro L zA v9 ⟨zB, zS, rfl, rfl, hF, hW⟩ hL hm K hK
        have hb29 : zB 29 = false := by simpa using hL
        have hb22 : zB 22 = true := by cases e : zB 22 with | false => (exfalso; revert hm; simp [metB, Region.binds, e]) | true => rfl
        have hb25 : zB 25 = true := by cases e : zB 25 with | false => (exfalso; revert hm; simp [metB, Region.binds, e]) | true => rfl
        have hb28 : zB 28 = true := by cases e : zB 28 with | false => (exfalso; revert hm; simp [metB, Region.binds, e]) | true => rfl
        have e22 : zS 92 = .bool false := hF.2.2.2.2.2.2.2.2.2.2.2.2.2.2.2.2.2.2.2.2.2.2.1 hb22
        have e25 : zS 95 = .bool lq := hF.2.2.2.2.2.2.2.2.2.2.2.2.2.2.2.2.2.2.2.2.2.2.2.2.2.1 hb25
        have e28 : zS 98 = .bool lq := hF.2.2.2.2.2.2.2.2.2.2.2.2.2.2.2.2.2.2.2.2.2.2.2.2.2.2.2.2.1 hb28
        clear hL hm
        simp only [pCE]
        simp only [e22, e25, e28]
        have hbb : (lq != lq) = false := by cases lq <;> rfl
        go_simp
        exact hK.out _ _ ⟨fun zj => if zj = 28 then true else if zj = 25 then true else if zj = 22 then true else if zj = 29 then true else zB zj, fun zd => if zd = 99 then .bool false else if zd = 98 then .bool lq else if zd = 95 then .bool lq else if zd = 92 then .bool false else zS zd, by simp [hb22, hb25, hb28], by kernel_rfl, ⟨hF.1, hF.2.1, hF.2.2.1, hF.2.2.2.1, hF.2.2.2.2.1, hF.2.2.2.2.2.1, hF.2.2.2.2.2.2.1, hF.2.2.2.2.2.2.2.1, hF.2.2.2.2.2.2.2.2.1, hF.2.2.2.2.2.2.2.2.2.1, hF.2.2.2.2.2.2.2.2.2.2.1, hF.2.2.2.2.2.2.2.2.2.2.2.1, hF.2.2.2.2.2.2.2.2.2.2.2.2.1, hF.2.2.2.2.2.2.2.2.2.2.2.2.2.1, hF.2.2.2.2.2.2.2.2.2.2.2.2.2.2.1, hF.2.2.2.2.2.2.2.2.2.2.2.2.2.2.2.1, hF.2.2.2.2.2.2.2.2.2.2.2.2.2.2.2.2.1, hF.2.2.2.2.2.2.2.2.2.2.2.2.2.2.2.2.2.1, hF.2.2.2.2.2.2.2.2.2.2.2.2.2.2.2.2.2.2.1, hF.2.2.2.2.2.2.2.2.2.2.2.2.2.2.2.2.2.2.2.1, hF.2.2.2.2.2.2.2.2.2.2.2.2.2.2.2.2.2.2.2.2.1, hF.2.2.2.2.2.2.2.2.2.2.2.2.2.2.2.2.2.2.2.2.2.1, fun _ => rfl, hF.2.2.2.2.2.2.2.2.2.2.2.2.2.2.2.2.2.2.2.2.2.2.2.1, hF.2.2.2.2.2.2.2.2.2.2.2.2.2.2.2.2.2.2.2.2.2.2.2.2.1, fun _ => rfl, hF.2.2.2.2.2.2.2.2.2.2.2.2.2.2.2.2.2.2.2.2.2.2.2.2.2.2.1, hF.2.2.2.2.2.2.2.2.2.2.2.2.2.2.2.2.2.2.2.2.2.2.2.2.2.2.2.1, fun _ => rfl, fun _ => rfl, hF.2.2.2.2.2.2.2.2.2.2.2.2.2.2.2.2.2.2.2.2.2.2.2.2.2.2.2.2.2.2⟩, hW⟩
      refine StepsI.cons rfl ?_ ?_
      · rintro L zA v9 ⟨zB, zS, rfl, rfl, hF, hW⟩ hL hm K hK
        have hb30 : zB 30 = false := by simpa using hL
        have hb22 : zB 22 = true := by cases e : zB 22 with | false => (exfalso; revert hm; simp [metB, Region.binds, e]) | true => rfl
        have hb29 : zB 29 = true := by cases e : zB 29 with | false => (exfalso; revert hm; simp [metB, Region.binds, e]) | true => rfl
        have e22 : zS 92 = .bool false := hF.2.2.2.2.2.2.2.2.2.2.2.2.2.2.2.2.2.2.2.2.2.2.1 hb22
        have e29 : zS 99 = .bool false := hF.2.2.2.2.2.2.2.2.2.2.2.2.2.2.2.2.2.2.2.2.2.2.2.2.2.2.2.2.2.1 hb29
        clear hL hm
        simp only [pCE]
        simp only [e22, e29]
        go_simp
        exact hK.out _ _ ⟨fun zj => if zj = 29 then true else if zj = 22 then true else if zj = 30 then true else zB zj, fun zd => if zd = 100 then .bool false else if zd = 99 then .bool false else if zd = 92 then .bool false else zS zd, by simp [hb22, hb29], by kernel_rfl, ⟨hF.1, hF.2.1, hF.2.2.1, hF.2.2.2.1, hF.2.2.2.2.1, hF.2.2.2.2.2.1, hF.2.2.2.2.2.2.1, hF.2.2.2.2.2.2.2.1, hF.2.2.2.2.2.2.2.2.1, hF.2.2.2.2.2.2.2.2.2.1, hF.2.2.2.2.2.2.2.2.2.2.1, hF.2.2.2.2.2.2.2.2.2.2.2.1, hF.2.2.2.2.2.2.2.2.2.2.2.2.1, hF.2.2.2.2.2.2.2.2.2.2.2.2.2.1, hF.2.2.2.2.2.2.2.2.2.2.2.2.2.2.1, hF.2.2.2.2.2.2.2.2.2.2.2.2.2.2.2.1, hF.2.2.2.2.2.2.2.2.2.2.2.2.2.2.2.2.1, hF.2.2.2.2.2.2.2.2.2.2.2.2.2.2.2.2.2.1, hF.2.2.2.2.2.2.2.2.2.2.2.2.2.2.2.2.2.2.1, hF.2.2.2.2.2.2.2.2.2.2.2.2.2.2.2.2.2.2.2.1, hF.2.2.2.2.2.2.2.2.2.2.2.2.2.2.2.2.2.2.2.2.1, hF.2.2.2.2.2.2.2.2.2.2.2.2.2.2.2.2.2.2.2.2.2.1, fun _ => rfl, hF.2.2.2.2.2.2.2.2.2.2.2.2.2.2.2.2.2.2.2.2.2.2.2.1, hF.2.2.2.2.2.2.2.2.2.2.2.2.2.2.2.2.2.2.2.2.2.2.2.2.1, hF.2.2.2.2.2.2.2.2.2.2.2.2.2.2.2.2.2.2.2.2.2.2.2.2.2.1, hF.2.2.2.2.2.2.2.2.2.2.2.2.2.2.2.2.2.2.2.2.2.2.2.2.2.2.1, hF.2.2.2.2.2.2.2.2.2.2.2.2.2.2.2.2.2.2.2.2.2.2.2.2.2.2.2.1, hF.2.2.2.2.2.2.2.2.2.2.2.2.2.2.2.2.2.2.2.2.2.2.2.2.2.2.2.2.1, fun _ => rfl, fun _ => rfl⟩, hW⟩
      exact StepsI.nil (by kernel_rfl)
    · rintro L zA v9 ⟨zB, zS, rfl, rfl, hF, hW⟩ hr
      have hu := all_up (by kernel_rfl) (N := 31) (by kernel_rfl) hr
      have hb0 : zB 0 = true := by simpa using hu 0 (by decide)
      have hb1 : zB 1 = true := by simpa using hu 1 (by decide)
      have hb2 : zB 2 = true := by simpa using hu 2 (by decide)
      have hb3 : zB 3 = true := by simpa using hu 3 (by decide)
      have hb4 : zB 4 = true := by simpa using hu 4 (by decide)
      have hb5 : zB 5 = true := by simpa using hu 5 (by decide)
      have hb6 : zB 6 = true := by simpa using hu 6 (by decide)
      have hb7 : zB 7 = true := by simpa using hu 7 (by decide)
      have hb8 : zB 8 = true := by simpa using hu 8 (by decide)
      have hb9 : zB 9 = true := by simpa using hu 9 (by decide)
      have hb10 : zB 10 = true := by simpa using hu 10 (by decide)
      have hb11 : zB 11 = true := by simpa using hu 11 (by decide)
      have hb12 : zB 12 = true := by simpa using hu 12 (by decide)
      have hb13 : zB 13 = true := by simpa using hu 13 (by decide)
      have hb14 : zB 14 = true := by simpa using hu 14 (by decide)
      have hb15 : zB 15 = true := by simpa using hu 15 (by decide)
      have hb16 : zB 16 = true := by simpa using hu 16 (by decide)
      have hb17 : zB 17 = true := by simpa using hu 17 (by decide)
      have hb18 : zB 18 = true := by simpa using hu 18 (by decide)
      have hb19 : zB 19 = true := by simpa using hu 19 (by decide)
      have hb20 : zB 20 = true := by simpa using hu 20 (by decide)
      have hb21 : zB 21 = true := by simpa using hu 21 (by decide)
      have hb22 : zB 22 = true := by simpa using hu 22 (by decide)
      have hb23 : zB 23 = true := by simpa using hu 23 (by decide)
      have hb24 : zB 24 = true := by simpa using hu 24 (by decide)
      have hb25 : zB 25 = true := by simpa using hu 25 (by decide)
      have hb26 : zB 26 = true := by simpa using hu 26 (by decide)
      have hb27 : zB 27 = true := by simpa using hu 27 (by decide)
      have hb28 : zB 28 = true := by simpa using hu 28 (by decide)
      have hb29 : zB 29 = true := by simpa using hu 29 (by decide)
      have hb30 : zB 30 = true := by simpa using hu 30 (by decide)
      have e0 : zS 70 = .agg #[.int .i64 a, .int .i64 b] := hF.1 hb0
      have e1 : zS 71 = .agg #[.int .i64 j1, .int .i64 j2] := hF.2.1 hb1
      have e2 : zS 72 = .bool true := hF.2.2.1 hb2
      have e3 : zS 73 = .bool false := hF.2.2.2.1 hb3
      have e4 : zS 74 = .bool false := hF.2.2.2.2.1 hb4
      have e5 : zS 75 = .agg #[.int .i64 c, .int .i64 d] := hF.2.2.2.2.2.1 hb5
      have e6 : zS 76 = .agg #[.int .i64 j1, .int .i64 j2] := hF.2.2.2.2.2.2.1 hb6
      have e7 : zS 77 = .bool true := hF.2.2.2.2.2.2.2.1 hb7
      have e8 : zS 78 = .bool false := hF.2.2.2.2.2.2.2.2.1 hb8
      have e9 : zS 79 = .bool false := hF.2.2.2.2.2.2.2.2.2.1 hb9
      have e10 : zS 80 = .bool false := hF.2.2.2.2.2.2.2.2.2.2.1 hb10
      have e11 : zS 81 = .agg #[.int .i64 m1, .int .i64 m2] := hF.2.2.2.2.2.2.2.2.2.2.2.1 hb11
      have e12 : zS 82 = .agg #[.int .i64 a, .int .i64 b] := hF.2.2.2.2.2.2.2.2.2.2.2.2.1 hb12
      have e13 : zS 83 = .bool true := hF.2.2.2.2.2.2.2.2.2.2.2.2.2.1 hb13
      have e14 : zS 84 = .bool false := hF.2.2.2.2.2.2.2.2.2.2.2.2.2.2.1 hb14
      have e15 : zS 85 = .bool false := hF.2.2.2.2.2.2.2.2.2.2.2.2.2.2.2.1 hb15
      have e16 : zS 86 = .bool false := hF.2.2.2.2.2.2.2.2.2.2.2.2.2.2.2.2.1 hb16
      have e17 : zS 87 = .agg #[.int .i64 m1, .int .i64 m2] := hF.2.2.2.2.2.2.2.2.2.2.2.2.2.2.2.2.2.1 hb17
      have e18 : zS 88 = .agg #[.int .i64 c, .int .i64 d] := hF.2.2.2.2.2.2.2.2.2.2.2.2.2.2.2.2.2.2.1 hb18
      have e19 : zS 89 = .bool true := hF.2.2.2.2.2.2.2.2.2.2.2.2.2.2.2.2.2.2.2.1 hb19
      have e20 : zS 90 = .bool false := hF.2.2.2.2.2.2.2.2.2.2.2.2.2.2.2.2.2.2.2.2.1 hb20
      have e21 : zS 91 = .bool false := hF.2.2.2.2.2.2.2.2.2.2.2.2.2.2.2.2.2.2.2.2.2.1 hb21
      have e22 : zS 92 = .bool false := hF.2.2.2.2.2.2.2.2.2.2.2.2.2.2.2.2.2.2.2.2.2.2.1 hb22
      have e23 : zS 93 = .agg #[.int .i64 a, .int .i64 b] := hF.2.2.2.2.2.2.2.2.2.2.2.2.2.2.2.2.2.2.2.2.2.2.2.1 hb23
      have e24 : zS 94 = .agg #[.int .i64 c, .int .i64 d] := hF.2.2.2.2.2.2.2.2.2.2.2.2.2.2.2.2.2.2.2.2.2.2.2.2.1 hb24
      have e25 : zS 95 = .bool lq := hF.2.2.2.2.2.2.2.2.2.2.2.2.2.2.2.2.2.2.2.2.2.2.2.2.2.1 hb25
      have e26 : zS 96 = .agg #[.int .i64 j1, .int .i64 j2] := hF.2.2.2.2.2.2.2.2.2.2.2.2.2.2.2.2.2.2.2.2.2.2.2.2.2.2.1 hb26
      have e27 : zS 97 = .agg #[.int .i64 c, .int .i64 d] := hF.2.2.2.2.2.2.2.2.2.2.2.2.2.2.2.2.2.2.2.2.2.2.2.2.2.2.2.1 hb27
      have e28 : zS 98 = .bool lq := hF.2.2.2.2.2.2.2.2.2.2.2.2.2.2.2.2.2.2.2.2.2.2.2.2.2.2.2.2.1 hb28
      have e29 : zS 99 = .bool false := hF.2.2.2.2.2.2.2.2.2.2.2.2.2.2.2.2.2.2.2.2.2.2.2.2.2.2.2.2.2.1 hb29
      have e30 : zS 100 = .bool false := hF.2.2.2.2.2.2.2.2.2.2.2.2.2.2.2.2.2.2.2.2.2.2.2.2.2.2.2.2.2.2 hb30
      clear hu hr hF
      simp only [pCE]
      simp only [e0, e1, e2, e3, e4, e5, e6, e7, e8, e9, e10, e11, e12, e13, e14, e15, e16, e17, e18, e19, e20, e21, e22, e23, e24, e25, e26, e27, e28, e29, e30]
      clear e0 e1 e2 e3 e4 e5 e6 e7 e8 e9 e10 e11 e12 e13 e14 e15 e16 e17 e18 e19 e20 e21 e22 e23 e24 e25 e26 e27 e28 e29 e30
      clear hb0 hb1 hb2 hb3 hb4 hb5 hb6 hb7 hb8 hb9 hb10 hb11 hb12 hb13 hb14 hb15 hb16 hb17 hb18 hb19 hb20 hb21 hb22 hb23 hb24 hb25 hb26 hb27 hb28 hb29 hb30
      clear zB zS
      have hb2 := hW.1
      have BE := mkHid (below_step BE.out hb2)
      have HE := mkHid (HE.out.below hb2)
      have FA := mkHid (FA.out.below hb2)
      have FB := mkHid (FB.out.below hb2)
      have FD := mkHid (FD.out.below hb2)
      have FJ := mkHid (FJ.out.below hb2)
      have FM := mkHid (FM.out.below hb2)
      have FW := mkHid (FW.out.below hb2)
      clear hb2 hW hA9 hB9 hJ9 hM9 OAJ OBJ OMA OMB OEQ HLQ FM
      go_upto_region 14 with fail
      go_cut [118] from 101 (fun s v => s = .bool false ∧ Below v9.heap.size v9 v)
      case first =>
        have BQ := mkHid (Below.refl v9.heap.size v9)
        obtain ⟨k0, k1, _, _⟩ := FD.out
        go_wp2_with fail
        clear k0 k1
        refine (sOk_any x1 y1 _).mono ?_
        rintro e u3 ⟨rfl, hb2⟩
        have BQ := mkHid (below_step BQ.out hb2)
        have FA := mkHid (FA.out.below hb2)
        have FB := mkHid (FB.out.below hb2)
        have FD := mkHid (FD.out.below hb2)
        have FJ := mkHid (FJ.out.below hb2)
        have FW := mkHid (FW.out.below hb2)
        clear hb2
        cases okD : okB x1 y1
        · go_wp2_with fail
          go_meet
          case rel => exact ⟨rfl, BQ.out⟩
        · obtain ⟨k0, k1, _, _⟩ := FA.out
          obtain ⟨k2, k3, _, _⟩ := FD.out
          go_wp2_with fail
          clear k0 k1 k2 k3
          refine (sLeq_any a b x1 y1 _).mono ?_
          rintro e u4 ⟨rfl, hb2⟩
          have BQ := mkHid (below_step BQ.out hb2)
          have FA := mkHid (FA.out.below hb2)
          have FB := mkHid (FB.out.below hb2)
          have FD := mkHid (FD.out.below hb2)
          have FJ := mkHid (FJ.out.below hb2)
          have FW := mkHid (FW.out.below hb2)
          clear hb2
          cases gA : leqB a b x1 y1
          · go_wp2_with fail
            go_meet
            case rel => exact ⟨rfl, BQ.out⟩
          · obtain ⟨k0, k1, _, _⟩ := FB.out
            obtain ⟨k2, k3, _, _⟩ := FD.out
            go_wp2_with fail
            clear k0 k1 k2 k3
            refine (sLeq_any c d x1 y1 _).mono ?_
            rintro e u5 ⟨rfl, hb2⟩
            have BQ := mkHid (below_step BQ.out hb2)
            have FA := mkHid (FA.out.below hb2)
            have FB := mkHid (FB.out.below hb2)
            have FD := mkHid (FD.out.below hb2)
            have FJ := mkHid (FJ.out.below hb2)
            have FW := mkHid (FW.out.below hb2)
            clear hb2
            cases gB : leqB c d x1 y1
            · go_wp2_with fail
              go_meet
              case rel => exact ⟨rfl, BQ.out⟩
            · obtain ⟨k0, k1, _, _⟩ := FJ.out
              obtain ⟨k2, k3, _, _⟩ := FD.out
              go_wp2_with fail
              clear k0 k1 k2 k3
              refine (iLeq_any j1 j2 x1 y1 _).mono ?_
              rintro e u6 ⟨rfl, hb2⟩
              have BQ := mkHid (below_step BQ.out hb2)
              have FA := mkHid (FA.out.below hb2)
              have FB := mkHid (FB.out.below hb2)
              have FD := mkHid (FD.out.below hb2)
              have FJ := mkHid (FJ.out.below hb2)
              have FW := mkHid (FW.out.below hb2)
              clear hb2
              rw [show leqB j1 j2 x1 y1 = true by have h := rleast okA okB_ okD gA gB; rw [EJ.out.1, EJ.out.2] at h; exact h]
              go_wp2_with fail
              go_meet
              case rel => exact ⟨rfl, BQ.out⟩
      case rest =>
        obtain ⟨rfl, hb2⟩ := hcut
        have BE := mkHid (below_step BE.out hb2)
        have HE := mkHid (HE.out.below hb2)
        have FA := mkHid (FA.out.below hb2)
        have FB := mkHid (FB.out.below hb2)
        have FD := mkHid (FD.out.below hb2)
        have FJ := mkHid (FJ.out.below hb2)
        have FW := mkHid (FW.out.below hb2)
        clear hb2 FD
        go_upto_region 16 with fail
        go_cut [141] from 119 (fun s v => s = .bool false ∧ Below wc.heap.size wc v)
        case first =>
          have BQ := mkHid (Below.refl wc.heap.size wc)
          obtain ⟨k0, k1, _, _⟩ := FW.out
          go_wp2_with fail
          clear k0 k1
          refine (sText_any p1 p2 _).mono ?_
          rintro e u7 ⟨rfl, hb2⟩
          have BQ := mkHid (below_step BQ.out hb2)
          have FA := mkHid (FA.out.below hb2)
          have FB := mkHid (FB.out.below hb2)
          have FJ := mkHid (FJ.out.below hb2)
          have FW := mkHid (FW.out.below hb2)
          clear hb2
          obtain ⟨sz, hsz⟩ : ∃ z, (textM p1 p2).size = z := ⟨_, rfl⟩
          have HSZ := mkHid hsz
          cases okW : okB p1 p2
          · have hz0 : (textM p1 p2).size = 0 := text_empty okW
            clear hsz
            go_wp2_with fail
            go_meet
            case rel => exact ⟨rfl, BQ.out⟩
          · by_cases hz0 : 0 < (textM p1 p2).size
            · have hz1 : (0 : Int) < ((textM p1 p2).size : Int) := by omega
              obtain ⟨k0, k1, _, _⟩ := FW.out
              by_cases hle : p1 ≤ p2
              · have HWB : Hid (leqB a b p1 p2 = true ∧ leqB c d p1 p2 = true) := mkHid (by have h := rwid (l := st) okA okB_ (by rw [EP.out.1, EP.out.2]; exact okW) (by rw [EP.out.1, EP.out.2]; exact hle); rw [EP.out.1, EP.out.2] at h; exact h)
                have HW1 := mkHid HWB.out.1
                have HW2 := mkHid HWB.out.2
                obtain ⟨k0, k1, _, _⟩ := FA.out
                obtain ⟨k2, k3, _, _⟩ := FW.out
                go_wp2_with fail
                clear k0 k1 k2 k3
                refine (iLeq_any a b p1 p2 _).mono ?_
                rintro e u8 ⟨rfl, hb2⟩
                have BQ := mkHid (below_step BQ.out hb2)
                have FA := mkHid (FA.out.below hb2)
                have FB := mkHid (FB.out.below hb2)
                have FJ := mkHid (FJ.out.below hb2)
                have FW := mkHid (FW.out.below hb2)
                clear hb2
                rw [HW1.out]
                obtain ⟨k0, k1, _, _⟩ := FB.out
                obtain ⟨k2, k3, _, _⟩ := FW.out
                go_wp2_with fail
                clear k0 k1 k2 k3
                refine (iLeq_any c d p1 p2 _).mono ?_
                rintro e u9 ⟨rfl, hb2⟩
                have BQ := mkHid (below_step BQ.out hb2)
                have FA := mkHid (FA.out.below hb2)
                have FB := mkHid (FB.out.below hb2)
                have FJ := mkHid (FJ.out.below hb2)
                have FW := mkHid (FW.out.below hb2)
                clear hb2
                rw [HW2.out]
                go_wp2_with fail
                go_meet
                case rel => exact ⟨rfl, BQ.out⟩
              · obtain ⟨k0, k1, _, _⟩ := FW.out
                have hl9 : decide (p1 ≤ p2) = false := decide_eq_false hle
                go_wp2_with fail
                go_meet
                case rel => exact ⟨rfl, BQ.out⟩
            · have hz1 : ¬ (0 : Int) < ((textM p1 p2).size : Int) := by omega
              go_wp2_with fail
              go_meet
              case rel => exact ⟨rfl, BQ.out⟩
        case rest =>
          obtain ⟨rfl, hb2⟩ := hcut
          have BE := mkHid (below_step BE.out hb2)
          have HE := mkHid (HE.out.below hb2)
          have FJ := mkHid (FJ.out.below hb2)
          clear hb2
          obtain ⟨k0, k1, _, _⟩ := FJ.out
          go_wp2_with fail
          clear k0 k1
          refine (iText_any j1 j2 _ HE.out.tab).mono ?_
          rintro e q1 ⟨rfl, hb2⟩
          have BE := mkHid (below_step BE.out hb2)
          have HE := mkHid (HE.out.below hb2)
          have FJ := mkHid (FJ.out.below hb2)
          clear hb2
          go_wp2_with fail
          refine (iRead_b j1 j2 OJ.out _ HE.out).mono ?_
          rintro e q2 ⟨rfl, hb2⟩
          have BE := mkHid (below_step BE.out hb2)
          have HE := mkHid (HE.out.below hb2)
          have FJ := mkHid (FJ.out.below hb2)
          obtain ⟨X, hX⟩ : ∃ z, q2.heap.size = z := ⟨_, rfl⟩
          obtain ⟨q3, hq3⟩ : ∃ z, q2.alloc (.cells #[.int .i64 j1, .int .i64 j2] 25) = z := ⟨_, rfl⟩
          have A2 : Below q2.heap.size q2 q3 := by rw [← hq3]; exact bl_alloc (Below.refl _ _) _
          have FX : Hid (Box q3 X j1 j2) := mkHid (by rw [← hq3, ← hX]; exact Box.made _ _ _)
          clear hb2
          have BE := mkHid (below_step BE.out A2)
          have HE := mkHid (HE.out.below A2)
          have FJ := mkHid (FJ.out.below A2)
          clear A2
          obtain ⟨k0, k1, _, _⟩ := FJ.out
          obtain ⟨k2, k3, _, _⟩ := FX.out
          have hEQ := eql_rng
          have hq9 := eqB_self j1 j2
          go_wp2
          go_ret
          exact ⟨by first | rfl | (simp; done), BE.out⟩
end Q
end Go.Proofs.YtgkmpadeleebdaaDoor
