/-
  FnFactsOrder holds at every two rows of bytes: no conditions.
-/
import Derived.Test.YtgclngofigffdaaFo19
import Derived.Test.YtgclngofigffdaaFo22
import Derived.Test.YtgclngofigffdaaFo23
import Derived.Test.YtgclngofigffdaaFo25
import Derived.Test.YtgclngofigffdaaFo24
import Derived.Test.YtgclngofigffdaaFo18
import Derived.Test.YtgclngofigffdaaFo21
import Derived.ProofKit
import Derived.OpenShut
import Derived.ChangeOld
import Derived.ChangeSlices
import Derived.Laws.OwnMore
import Derived.Deep.Cut
namespace Go.Proofs.Ytgclngofigffdaa
open Go.ChangeShapes Go.WideShapes Go.ChangeAt Go.RowKit Go.Joins

theorem met_fineO {n : Nat} {l l' : List Int} (h : okF n l = true) (h' : okF n l' = true) : FineO n (metF n l n l') := by
  have e : metF n l n l' = (some fun a b => min (tab n l a b) (tab n l' a b)).bind (cloO n) := by unfold metF; rw [h, h']; simp
  rw [e]
  refine clo_fineO fun f e => ?_
  cases e
  obtain ⟨m, em, k1, k2, _, _, k3⟩ := ok_of h
  obtain ⟨m', em', _, _, _, _, k4⟩ := ok_of h'
  obtain rfl : n = m := by omega
  obtain rfl : n = m' := by omega
  refine ⟨k1, k2, fun a b ha hb => ?_⟩
  have q1 := k3 a b ha hb
  have q2 := k4 a b ha hb
  show -2000000 ≤ min (tab n l a b) (tab n l' a b) ∧ min (tab n l a b) (tab n l' a b) ≤ capT a b ∧ (a = b → min (tab n l a b) (tab n l' a b) = 0)
  exact ⟨by omega, by omega, fun e => by have := q1.2.2 e; have := q2.2.2 e; omega⟩
theorem met_len (z : Int) (l : List Int) (z' : Int) (l' : List Int) : (outL (metF z l z' l') z.toNat).length ≤ 169 := by
  cases h : metF z l z' l' with
  | none => simp [outL]
  | some f =>
    show (mk z.toNat f).length ≤ 169
    rw [mk_len]
    refine sq_le ?_
    unfold metF at h
    split at h
    · rename_i hk
      rw [Bool.and_eq_true] at hk
      obtain ⟨m, rfl, _, k2, _⟩ := ok_of hk.1
      rw [Int.toNat_natCast]; exact k2
    · cases h
theorem Bytes.old {w w' : World} {a : Option Addr} {n : Nat} (h : Bytes w w.heap.size a n) (hb : Below w.heap.size w w') : Bytes w' w'.heap.size a n := h.up hb.size hb
def selV (b : Bool) (x y : Value) : Value := match b with | true => x | false => y
set_option maxRecDepth 100000 in
set_option maxHeartbeats 102400000 in
theorem law_walk (a1 a2 : Option Addr) (n1 c1 n2 c2 : Nat) (w : World) (hn1 : n1 ≤ maxLen) (hn2 : n2 ≤ maxLen) (hb1 : Bytes w w.heap.size a1 n1) (hb2 : Bytes w w.heap.size a2 n2) : Calls Try.prog 5 #[.slice a1 n1 c1, .slice a2 n2 c2] w fun e w' => e = .returned (.bool true) ∧ Below w.heap.size w w' := by
  have HB1 := mkHid hb1
  have HB2 := mkHid hb2
  have HN1 := mkHid hn1
  have HN2 := mkHid hn2
  clear hb1 hb2 hn1 hn2
  by_cases g1 : 1048576 < n1
  · have e1 : decide (1048576 < n1) = true := decide_eq_true g1
    go_enter Try.func5, Try.ntmps5
    go_wp2_with fail
    refine (big_any n1 _ _ _ HN1.out).mono ?_
    rintro e w' ⟨rfl, rfl⟩
    go_wp2
    go_ret
    exact ⟨rfl, Below.refl _ _⟩
  by_cases g2 : 1048576 < n2
  · have e1 : decide (1048576 < n1) = false := decide_eq_false g1
    have e2 : decide (1048576 < n2) = true := decide_eq_true g2
    go_enter Try.func5, Try.ntmps5
    go_wp2_with fail
    refine (big_any n1 _ _ _ HN1.out).mono ?_
    rintro e w' ⟨rfl, rfl⟩
    go_wp2_with fail
    refine (big_any n2 _ _ _ HN2.out).mono ?_
    rintro e w' ⟨rfl, rfl⟩
    go_wp2
    go_ret
    exact ⟨rfl, Below.refl _ _⟩
  have e1 : decide (1048576 < n1) = false := decide_eq_false g1
  have e2 : decide (1048576 < n2) = false := decide_eq_false g2
  have HM2 := mkHid (show n2 ≤ 1048576 by omega)
  have HM1 := mkHid (show n1 ≤ 1048576 by omega)
  clear g1 g2
  go_enter Try.func5, Try.ntmps5
  go_wp2_with fail
  refine (big_any n1 _ _ _ HN1.out).mono ?_
  rintro e w' ⟨rfl, rfl⟩
  go_wp2_with fail
  refine (big_any n2 _ _ _ HN2.out).mono ?_
  rintro e w' ⟨rfl, rfl⟩
  go_wp2_with fail
  refine (drawLeq_any n1 c1 a1 w HM1.out HB1.out).mono ?_
  rintro e w1 ⟨z, l, ao, cp, z', l', ao', cp', rfl, hz, hz', hO, hO', hb⟩
  obtain ⟨A, hA⟩ : ∃ q, w1.heap.size = q := ⟨_, rfl⟩
  obtain ⟨w2, hw2⟩ : ∃ x, (w1.alloc (.cells #[.int .i64 z, .slice ao l.length cp] 26)).alloc (.cells #[.int .i64 z', .slice ao' l'.length cp'] 26) = x := ⟨_, rfl⟩
  have A2 : Below w1.heap.size w1 w2 := by rw [← hw2]; exact bl_alloc (bl_alloc (Below.refl _ _) _) _
  have BE := mkHid (below_step hb A2)
  have BY := mkHid ((HB2.out.old hb).old A2)
  have FA : Hid (Fc w2 A z ao l.length cp) := mkHid (by rw [← hw2, ← hA]; exact (Fc.new w1 z ao l.length cp 26).below (below_alloc _ _))
  have FB : Hid (Fc w2 (A + 1) z' ao' l'.length cp') := mkHid (by rw [← hw2, ← hA]; have := Fc.new (w1.alloc (.cells #[.int .i64 z, .slice ao l.length cp] 26)) z' ao' l'.length cp' 26; simpa using this)
  have LA := mkHid (hO.at.below A2)
  have LB := mkHid (hO'.at.below A2)
  have HZ := mkHid hz
  have HZ' := mkHid hz'
  clear hb hO hO' A2 hz hz' HB1 HB2
  go_wp2_with fail
  clear hw2 hA
  refine (drawWiden_any n2 c2 a2 w2 HM2.out BY.out).mono ?_
  rintro e w3 ⟨x1, y1, x2, y2, st, gs, cs, rfl, hst, hI, hgs, hb⟩
  obtain ⟨D, hD⟩ : ∃ q, w3.heap.size = q := ⟨_, rfl⟩
  obtain ⟨w4, hw4⟩ : ∃ x, (w3.alloc (.cells #[.int .i64 x1, .int .i64 y1] 44)).alloc (.cells #[.int .i64 x2, .int .i64 y2] 44) = x := ⟨_, rfl⟩
  have A2 : Below w3.heap.size w3 w4 := by rw [← hw4]; exact bl_alloc (bl_alloc (Below.refl _ _) _) _
  have hb2 := below_step hb A2
  have BE := mkHid (below_step BE.out hb2)
  have FA := mkHid (FA.out.below hb2)
  have FB := mkHid (FB.out.below hb2)
  have LA := mkHid (LA.out.below hb2)
  have LB := mkHid (LB.out.below hb2)
  have IS := mkHid (hI.below A2)
  have GS := mkHid (Nat.lt_of_lt_of_le hgs.2 A2.size)
  have HST := mkHid (show st.length ≤ maxLen by unfold maxLen; omega)
  clear hb hb2 A2 hst hI hgs BY
  obtain ⟨bl, hbl⟩ : ∃ b, leqF z l z' l' = b := ⟨_, rfl⟩
  have C33 : Hid (∀ v, IntsAt v ao l → IntsAt v ao' l' → Calls Try.prog 33 #[.agg #[.int .i64 z, .slice ao l.length cp], .agg #[.int .i64 z', .slice ao' l'.length cp']] v fun e w' => e = .returned (.bool bl) ∧ Below v.heap.size v w') := mkHid fun v h1 h2 => by rw [← hbl]; exact iLeq_any z l ao cp z' l' ao' cp' v HZ.out.2 HZ'.out.2 h1 h2
  have C34 : Hid (∀ v, IntsAt v ao l → IntsAt v ao' l' → Calls Try.prog 34 #[.agg #[.int .i64 z, .slice ao l.length cp], .agg #[.int .i64 z', .slice ao' l'.length cp']] v fun e w' => e = .returned (.bool bl) ∧ Below v.heap.size v w') := mkHid fun v h1 h2 => by rw [← hbl]; exact sLeq_any z l ao cp z' l' ao' cp' v h1 h2
  have HBL := mkHid hbl
  clear hbl
  have hA9 : ∀ v', Below w4.heap.size w4 v' → v'.cell? ⟨A, 0, none⟩ = some (.int .i64 z) ∧ v'.cell? ⟨A, 1, none⟩ = some (.slice ao l.length cp) := fun v' h => FA.out.below h
  have hB9 : ∀ v', Below w4.heap.size w4 v' → v'.cell? ⟨A + 1, 0, none⟩ = some (.int .i64 z') ∧ v'.cell? ⟨A + 1, 1, none⟩ = some (.slice ao' l'.length cp') := fun v' h => FB.out.below h
  go_wp2_with fail
  clear hw4 hD
  refine wp_region_inv2 (fun zA0 L zA v9 => ∃ (zB : Nat → Bool) (zS : Nat → Value), L = #[zB 0, zB 1, zB 2, zB 3, zB 4, zB 5, zB 6] ∧ zA = puts zA0 [(31, zS 31), (32, zS 32), (33, zS 33), (34, zS 34), (35, zS 35), (36, zS 36), (37, zS 37)] ∧ ((zB 0 = true → zS 31 = .agg #[.int .i64 z, .slice ao l.length cp]) ∧ (zB 1 = true → zS 32 = .agg #[.int .i64 z', .slice ao' l'.length cp']) ∧ (zB 2 = true → zS 33 = .bool bl) ∧ (zB 3 = true → zS 34 = .agg #[.int .i64 z, .slice ao l.length cp]) ∧ (zB 4 = true → zS 35 = .agg #[.int .i64 z', .slice ao' l'.length cp']) ∧ (zB 5 = true → zS 36 = .bool bl) ∧ (zB 6 = true → zS 37 = .bool false)) ∧ Below w4.heap.size w4 v9 ∧ True) (by kernel_rfl) ?_ ?_ ?_
  · exact ⟨fun _ => false, fun _ => undef, rfl, by kernel_rfl, ⟨fun e => ft e, fun e => ft e, fun e => ft e, fun e => ft e, fun e => ft e, fun e => ft e, fun e => ft e⟩, ⟨(Below.refl _ _).drew, trivial⟩⟩
  · refine StepsI.cons rfl ?_ ?_
    · rintro L zA v9 ⟨zB, zS, rfl, rfl, hF, hW⟩ hL hm K hK
      have hb0 : zB 0 = false := by simpa using hL
      clear hL hm
      simp only [puts, Act.put, List.setIfInBounds_toArray, List.set_cons_zero, List.set_cons_succ]
      obtain ⟨k0, k1⟩ := hA9 _ hW.1
      go_simp
      exact hK.out _ _ ⟨fun zj => if zj = 0 then true else zB zj, fun zd => if zd = 31 then .agg #[.int .i64 z, .slice ao l.length cp] else zS zd, rfl, by kernel_rfl, ⟨fun _ => rfl, hF.2.1, hF.2.2.1, hF.2.2.2.1, hF.2.2.2.2.1, hF.2.2.2.2.2.1, hF.2.2.2.2.2.2⟩, hW⟩
    refine StepsI.cons rfl ?_ ?_
    · rintro L zA v9 ⟨zB, zS, rfl, rfl, hF, hW⟩ hL hm K hK
      have hb1 : zB 1 = false := by simpa using hL
      clear hL hm
      simp only [puts, Act.put, List.setIfInBounds_toArray, List.set_cons_zero, List.set_cons_succ]
      obtain ⟨k0, k1⟩ := hB9 _ hW.1
      go_simp
      exact hK.out _ _ ⟨fun zj => if zj = 1 then true else zB zj, fun zd => if zd = 32 then .agg #[.int .i64 z', .slice ao' l'.length cp'] else zS zd, rfl, by kernel_rfl, ⟨hF.1, fun _ => rfl, hF.2.2.1, hF.2.2.2.1, hF.2.2.2.2.1, hF.2.2.2.2.2.1, hF.2.2.2.2.2.2⟩, hW⟩
    refine StepsI.cons rfl ?_ ?_
    · rintro L zA v9 ⟨zB, zS, rfl, rfl, hF, hW⟩ hL hm K hK
      have hb2 : zB 2 = false := by simpa using hL
      have hb0 : zB 0 = true := by cases e : zB 0 with | false => (exfalso; revert hm; simp [metB, Region.binds, e]) | true => rfl
      have hb1 : zB 1 = true := by cases e : zB 1 with | false => (exfalso; revert hm; simp [metB, Region.binds, e]) | true => rfl
      have e0 : zS 31 = .agg #[.int .i64 z, .slice ao l.length cp] := hF.1 hb0
      have e1 : zS 32 = .agg #[.int .i64 z', .slice ao' l'.length cp'] := hF.2.1 hb1
      clear hL hm
      simp only [puts, Act.put, List.setIfInBounds_toArray, List.set_cons_zero, List.set_cons_succ]
      simp only [e0, e1]
      go_simp
      refine (C33.out _ (LA.out.below hW.1) (LB.out.below hW.1)).mono ?_
      rintro e v92 ⟨rfl, hb⟩
      go_wp2_with fail
      exact hK.out _ _ ⟨fun zj => if zj = 1 then true else if zj = 0 then true else if zj = 2 then true else zB zj, fun zd => if zd = 33 then .bool bl else if zd = 32 then .agg #[.int .i64 z', .slice ao' l'.length cp'] else if zd = 31 then .agg #[.int .i64 z, .slice ao l.length cp] else zS zd, by simp [hb0, hb1], by kernel_rfl, ⟨fun _ => rfl, fun _ => rfl, fun _ => rfl, hF.2.2.2.1, hF.2.2.2.2.1, hF.2.2.2.2.2.1, hF.2.2.2.2.2.2⟩, ⟨below_step hW.1 hb, trivial⟩⟩
    refine StepsI.cons rfl ?_ ?_
    · rintro L zA v9 ⟨zB, zS, rfl, rfl, hF, hW⟩ hL hm K hK
      have hb3 : zB 3 = false := by simpa using hL
      clear hL hm
      simp only [puts, Act.put, List.setIfInBounds_toArray, List.set_cons_zero, List.set_cons_succ]
      obtain ⟨k0, k1⟩ := hA9 _ hW.1
      go_simp
      exact hK.out _ _ ⟨fun zj => if zj = 3 then true else zB zj, fun zd => if zd = 34 then .agg #[.int .i64 z, .slice ao l.length cp] else zS zd, rfl, by kernel_rfl, ⟨hF.1, hF.2.1, hF.2.2.1, fun _ => rfl, hF.2.2.2.2.1, hF.2.2.2.2.2.1, hF.2.2.2.2.2.2⟩, hW⟩
    refine StepsI.cons rfl ?_ ?_
    · rintro L zA v9 ⟨zB, zS, rfl, rfl, hF, hW⟩ hL hm K hK
      have hb4 : zB 4 = false := by simpa using hL
      clear hL hm
      simp only [puts, Act.put, List.setIfInBounds_toArray, List.set_cons_zero, List.set_cons_succ]
      obtain ⟨k0, k1⟩ := hB9 _ hW.1
      go_simp
      exact hK.out _ _ ⟨fun zj => if zj = 4 then true else zB zj, fun zd => if zd = 35 then .agg #[.int .i64 z', .slice ao' l'.length cp'] else zS zd, rfl, by kernel_rfl, ⟨hF.1, hF.2.1, hF.2.2.1, hF.2.2.2.1, fun _ => rfl, hF.2.2.2.2.2.1, hF.2.2.2.2.2.2⟩, hW⟩
    refine StepsI.cons rfl ?_ ?_
    · rintro L zA v9 ⟨zB, zS, rfl, rfl, hF, hW⟩ hL hm K hK
      have hb5 : zB 5 = false := by simpa using hL
      have hb3 : zB 3 = true := by cases e : zB 3 with | false => (exfalso; revert hm; simp [metB, Region.binds, e]) | true => rfl
      have hb4 : zB 4 = true := by cases e : zB 4 with | false => (exfalso; revert hm; simp [metB, Region.binds, e]) | true => rfl
      have e3 : zS 34 = .agg #[.int .i64 z, .slice ao l.length cp] := hF.2.2.2.1 hb3
      have e4 : zS 35 = .agg #[.int .i64 z', .slice ao' l'.length cp'] := hF.2.2.2.2.1 hb4
      clear hL hm
      simp only [puts, Act.put, List.setIfInBounds_toArray, List.set_cons_zero, List.set_cons_succ]
      simp only [e3, e4]
      go_simp
      refine (C34.out _ (LA.out.below hW.1) (LB.out.below hW.1)).mono ?_
      rintro e v92 ⟨rfl, hb⟩
      go_wp2_with fail
      exact hK.out _ _ ⟨fun zj => if zj = 4 then true else if zj = 3 then true else if zj = 5 then true else zB zj, fun zd => if zd = 36 then .bool bl else if zd = 35 then .agg #[.int .i64 z', .slice ao' l'.length cp'] else if zd = 34 then .agg #[.int .i64 z, .slice ao l.length cp] else zS zd, by simp [hb3, hb4], by kernel_rfl, ⟨hF.1, hF.2.1, hF.2.2.1, fun _ => rfl, fun _ => rfl, fun _ => rfl, hF.2.2.2.2.2.2⟩, ⟨below_step hW.1 hb, trivial⟩⟩
    refine StepsI.cons rfl ?_ ?_
    · rintro L zA v9 ⟨zB, zS, rfl, rfl, hF, hW⟩ hL hm K hK
      have hb6 : zB 6 = false := by simpa using hL
      have hb2 : zB 2 = true := by cases e : zB 2 with | false => (exfalso; revert hm; simp [metB, Region.binds, e]) | true => rfl
      have hb5 : zB 5 = true := by cases e : zB 5 with | false => (exfalso; revert hm; simp [metB, Region.binds, e]) | true => rfl
      have e2 : zS 33 = .bool bl := hF.2.2.1 hb2
      have e5 : zS 36 = .bool bl := hF.2.2.2.2.2.1 hb5
      clear hL hm
      simp only [puts, Act.put, List.setIfInBounds_toArray, List.set_cons_zero, List.set_cons_succ]
      simp only [e2, e5]
      have hbb : (bl != bl) = false := by cases bl <;> rfl
      go_simp
      exact hK.out _ _ ⟨fun zj => if zj = 5 then true else if zj = 2 then true else if zj = 6 then true else zB zj, fun zd => if zd = 37 then .bool false else if zd = 36 then .bool bl else if zd = 33 then .bool bl else zS zd, by simp [hb2, hb5], by kernel_rfl, ⟨hF.1, hF.2.1, fun _ => rfl, hF.2.2.2.1, hF.2.2.2.2.1, fun _ => rfl, fun _ => rfl⟩, hW⟩
    exact StepsI.nil (by kernel_rfl)
  · rintro L zA v9 ⟨zB, zS, rfl, rfl, hF, hW⟩ hr
    have hu := all_up (by kernel_rfl) (N := 7) (by kernel_rfl) hr
    have hb0 : zB 0 = true := by simpa using hu 0 (by decide)
    have hb1 : zB 1 = true := by simpa using hu 1 (by decide)
    have hb2 : zB 2 = true := by simpa using hu 2 (by decide)
    have hb3 : zB 3 = true := by simpa using hu 3 (by decide)
    have hb4 : zB 4 = true := by simpa using hu 4 (by decide)
    have hb5 : zB 5 = true := by simpa using hu 5 (by decide)
    have hb6 : zB 6 = true := by simpa using hu 6 (by decide)
    have e0 : zS 31 = .agg #[.int .i64 z, .slice ao l.length cp] := hF.1 hb0
    have e1 : zS 32 = .agg #[.int .i64 z', .slice ao' l'.length cp'] := hF.2.1 hb1
    have e2 : zS 33 = .bool bl := hF.2.2.1 hb2
    have e3 : zS 34 = .agg #[.int .i64 z, .slice ao l.length cp] := hF.2.2.2.1 hb3
    have e4 : zS 35 = .agg #[.int .i64 z', .slice ao' l'.length cp'] := hF.2.2.2.2.1 hb4
    have e5 : zS 36 = .bool bl := hF.2.2.2.2.2.1 hb5
    have e6 : zS 37 = .bool false := hF.2.2.2.2.2.2 hb6
    clear hu hr hF
    simp only [puts, Act.put, List.setIfInBounds_toArray, List.set_cons_zero, List.set_cons_succ]
    simp only [e0, e1, e2, e3, e4, e5, e6]
    clear e0 e1 e2 e3 e4 e5 e6
    clear hb0 hb1 hb2 hb3 hb4 hb5 hb6
    clear zB zS
    have hb2 := hW.1
    have BE := mkHid (below_step BE.out hb2)
    have FA := mkHid (FA.out.below hb2)
    have FB := mkHid (FB.out.below hb2)
    have LA := mkHid (LA.out.below hb2)
    have LB := mkHid (LB.out.below hb2)
    have IS := mkHid (IS.out.below hb2)
    have GS := mkHid (Nat.lt_of_lt_of_le GS.out hb2.size)
    clear hb2 hW hA9 hB9 C33
    obtain ⟨k0, k1⟩ := FA.out
    go_wp2_with fail
    clear k0 k1
    refine (sOkF_any z l ao cp _ LA.out).mono ?_
    rintro e u1 ⟨rfl, hb2⟩
    have BE := mkHid (below_step BE.out hb2)
    have FA := mkHid (FA.out.below hb2)
    have FB := mkHid (FB.out.below hb2)
    have LA := mkHid (LA.out.below hb2)
    have LB := mkHid (LB.out.below hb2)
    have IS := mkHid (IS.out.below hb2)
    have GS := mkHid (Nat.lt_of_lt_of_le GS.out hb2.size)
    clear hb2
    cases okA : okF z l
    · go_wp2
      go_ret
      exact ⟨by first | rfl | (simp; done), BE.out⟩
    obtain ⟨k0, k1⟩ := FB.out
    go_wp2_with fail
    clear k0 k1
    refine (sOkF_any z' l' ao' cp' _ LB.out).mono ?_
    rintro e u2 ⟨rfl, hb2⟩
    have BE := mkHid (below_step BE.out hb2)
    have FA := mkHid (FA.out.below hb2)
    have FB := mkHid (FB.out.below hb2)
    have LA := mkHid (LA.out.below hb2)
    have LB := mkHid (LB.out.below hb2)
    have IS := mkHid (IS.out.below hb2)
    have GS := mkHid (Nat.lt_of_lt_of_le GS.out hb2.size)
    clear hb2
    cases okB : okF z' l'
    · go_wp2
      go_ret
      exact ⟨by first | rfl | (simp; done), BE.out⟩
    by_cases hzz : z = z'
    rotate_left
    · have hne : (z != z') = true := by simpa using hzz
      obtain ⟨f0, f1⟩ := FA.out
      obtain ⟨g0, g1⟩ := FB.out
      go_wp2
      go_ret
      exact ⟨by first | rfl | (simp; done), BE.out⟩
    subst hzz
    have hne : (z != z) = false := by simp
    obtain ⟨q, rfl, q1, q2, -, -, -⟩ := ok_of okA
    obtain ⟨zj, hzj⟩ : ∃ r, (joinR q l q l').1 = r := ⟨_, rfl⟩
    obtain ⟨lj, hlj⟩ : ∃ r, (joinR q l q l').2 = r := ⟨_, rfl⟩
    have HLJ : Hid (lj.length ≤ maxLen) := mkHid (by rw [← hlj]; unfold maxLen; have := joinR_len q l q l'; omega)
    obtain ⟨zm, hzm⟩ : ∃ r, outZ (metF q l q l') q = r := ⟨_, rfl⟩
    obtain ⟨lm, hlm⟩ : ∃ r, outL (metF q l q l') q = r := ⟨_, rfl⟩
    have HLM : Hid (lm.length ≤ maxLen) := mkHid (by rw [← hlm]; unfold maxLen; have := met_len q l q l'; rw [Int.toNat_natCast] at this; omega)
    obtain ⟨zw, hzw⟩ : ∃ r, (widR q l q l' st).1 = r := ⟨_, rfl⟩
    obtain ⟨lw, hlw⟩ : ∃ r, (widR q l q l' st).2 = r := ⟨_, rfl⟩
    have HLW : Hid (lw.length ≤ maxLen) := mkHid (by rw [← hlw]; unfold maxLen; have := widR_len q l q l' st; omega)
    obtain ⟨zx, hzx⟩ : ∃ r, outZ (cF q l) q = r := ⟨_, rfl⟩
    obtain ⟨lx, hlx⟩ : ∃ r, outL (cF q l) q = r := ⟨_, rfl⟩
    have HLX : Hid (lx.length ≤ maxLen) := mkHid (by rw [← hlx]; unfold maxLen; have := outL_len (cF_finen q l).good; omega)
    have C9 : Hid (∀ v, IntsAt v ao l → IntsAt v ao' l' → Calls Try.prog 9 #[.agg #[.int .i64 q, .slice ao l.length cp], .agg #[.int .i64 q, .slice ao' l'.length cp']] v fun e w' => Gives v w' e zj lj) := mkHid fun v h1 h2 => by rw [← hzj, ← hlj]; exact iJoin_any q l ao cp q l' ao' cp' v HZ.out.2 HZ'.out.2 h1 h2
    have C14 : Hid (∀ v, IntsAt v ao l → IntsAt v ao' l' → Calls Try.prog 14 #[.agg #[.int .i64 q, .slice ao l.length cp], .agg #[.int .i64 q, .slice ao' l'.length cp']] v fun e w' => Gives v w' e zj lj) := mkHid fun v h1 h2 => by rw [← hzj, ← hlj]; exact sJoin_any q l ao cp q l' ao' cp' v h1 h2
    have C10 : Hid (∀ v, IntsAt v ao l → IntsAt v ao' l' → Calls Try.prog 10 #[.agg #[.int .i64 q, .slice ao l.length cp], .agg #[.int .i64 q, .slice ao' l'.length cp']] v fun e w' => Gives v w' e zm lm) := mkHid fun v h1 h2 => by have := iMeet_any q l ao cp q l' ao' cp' v HZ.out.2 HZ'.out.2 h1 h2; rw [Int.toNat_natCast, hzm, hlm] at this; exact this
    have C15 : Hid (∀ v, IntsAt v ao l → IntsAt v ao' l' → Calls Try.prog 15 #[.agg #[.int .i64 q, .slice ao l.length cp], .agg #[.int .i64 q, .slice ao' l'.length cp']] v fun e w' => Gives v w' e zm lm) := mkHid fun v h1 h2 => by have := sMeet_any q l ao cp q l' ao' cp' v h1 h2; rw [Int.toNat_natCast, hzm, hlm] at this; exact this
    have C11 : Hid (∀ v, IntsAt v ao l → IntsAt v ao' l' → IntsIn v st gs 0 → gs < v.heap.size → Calls Try.prog 11 #[.agg #[.int .i64 q, .slice ao l.length cp], .agg #[.int .i64 q, .slice ao' l'.length cp'], .slice (some ⟨gs, 0, none⟩) st.length cs] v fun e w' => Gives v w' e zw lw) := mkHid fun v h1 h2 h3 h4 => by rw [← hzw, ← hlw]; exact iWiden_any q l ao cp q l' ao' cp' st gs cs v (.inr h4) HST.out HZ.out.2 HZ'.out.2 h1 h2 h3
    have C16 : Hid (∀ v, IntsAt v ao l → IntsAt v ao' l' → IntsIn v st gs 0 → Calls Try.prog 16 #[.agg #[.int .i64 q, .slice ao l.length cp], .agg #[.int .i64 q, .slice ao' l'.length cp'], .slice (some ⟨gs, 0, none⟩) st.length cs] v fun e w' => Gives v w' e zw lw) := mkHid fun v h1 h2 h3 => by rw [← hzw, ← hlw]; exact sWiden_any q l ao cp q l' ao' cp' st gs cs v HST.out h1 h2 h3
    have C12 : Hid (∀ v, IntsAt v ao l → Calls Try.prog 12 #[.agg #[.int .i64 q, .slice ao l.length cp]] v fun e w' => Gives v w' e zx lx) := mkHid fun v h1 => by have := iClose_any q l ao cp v HZ.out.2 h1; rw [Int.toNat_natCast] at this; change Calls _ _ _ _ (fun e w' => Gives v w' e (outZ (cF q l) q) (outL (cF q l) q)) at this; rw [hzx, hlx] at this; exact this
    have EJ := mkHid (And.intro hzj hlj)
    have EM := mkHid (And.intro hzm hlm)
    have EW := mkHid (And.intro hzw hlw)
    have EX := mkHid (And.intro hzx hlx)
    clear hzj hlj hzm hlm hzw hlw hzx hlx
    have OAJ : Hid (leqF q l zj lj = true) := mkHid (by have := join_up okA okB; rw [EJ.out.1, EJ.out.2] at this; exact this)
    have OBJ : Hid (leqF q l' zj lj = true) := mkHid (by have := join_up2 okA okB; rw [EJ.out.1, EJ.out.2] at this; exact this)
    have OMA : Hid (leqF zm lm q l = true) := mkHid (by have := (meet_down okA okB (met_fineO okA okB)).1; rw [EM.out.1, EM.out.2] at this; exact this)
    have OMB : Hid (leqF zm lm q l' = true) := mkHid (by have := (meet_down okA okB (met_fineO okA okB)).2; rw [EM.out.1, EM.out.2] at this; exact this)
    have OWA : Hid (0 < lw.length → leqF q l zw lw = true) := mkHid (fun h => by have := (wid_up (st := st) okA okB (by rw [EW.out.2]; exact h)).1; rw [EW.out.1, EW.out.2] at this; exact this)
    have OWB : Hid (0 < lw.length → leqF q l' zw lw = true) := mkHid (fun h => by have := (wid_up (st := st) okA okB (by rw [EW.out.2]; exact h)).2; rw [EW.out.1, EW.out.2] at this; exact this)
    obtain ⟨a0, a1'⟩ := FA.out
    obtain ⟨b0, b1⟩ := FB.out
    go_wp2_with fail
    clear hne a0 a1' b0 b1
    refine (C9.out _ LA.out LB.out).mono ?_
    rintro e w5 ⟨aJ, cJ, rfl, hO, hb⟩
    obtain ⟨J, hJ⟩ : ∃ q, w5.heap.size = q := ⟨_, rfl⟩
    obtain ⟨x5, hx5⟩ : ∃ x, w5.alloc (.cells #[.int .i64 zj, .slice aJ lj.length cJ] 26) = x := ⟨_, rfl⟩
    have A2 : Below w5.heap.size w5 x5 := by rw [← hx5]; exact below_alloc _ _
    have hb2 := below_step hb A2
    have BE := mkHid (below_step BE.out hb2)
    have FA := mkHid (FA.out.below hb2)
    have FB := mkHid (FB.out.below hb2)
    have LA := mkHid (LA.out.below hb2)
    have LB := mkHid (LB.out.below hb2)
    have IS := mkHid (IS.out.below hb2)
    have GS := mkHid (Nat.lt_of_lt_of_le GS.out hb2.size)
    have FJ : Hid (Fc x5 J zj aJ lj.length cJ) := mkHid (by rw [← hx5, ← hJ]; exact Fc.new _ _ _ _ _ 26)
    have LJ := mkHid (hO.at.below A2)
    have RJ := mkHid (own_cap hO)
    clear hb hb2 hO A2 C9
    obtain ⟨a0, a1'⟩ := FA.out
    obtain ⟨b0, b1⟩ := FB.out
    go_wp2_with fail
    clear hx5 hJ a0 a1' b0 b1
    refine (C10.out _ LA.out LB.out).mono ?_
    rintro e w6 ⟨aM, cM, rfl, hO, hb⟩
    obtain ⟨M, hM⟩ : ∃ q, w6.heap.size = q := ⟨_, rfl⟩
    obtain ⟨x6, hx6⟩ : ∃ x, w6.alloc (.cells #[.int .i64 zm, .slice aM lm.length cM] 26) = x := ⟨_, rfl⟩
    have A2 : Below w6.heap.size w6 x6 := by rw [← hx6]; exact below_alloc _ _
    have hb2 := below_step hb A2
    have BE := mkHid (below_step BE.out hb2)
    have FA := mkHid (FA.out.below hb2)
    have FB := mkHid (FB.out.below hb2)
    have LA := mkHid (LA.out.below hb2)
    have LB := mkHid (LB.out.below hb2)
    have IS := mkHid (IS.out.below hb2)
    have GS := mkHid (Nat.lt_of_lt_of_le GS.out hb2.size)
    have FJ := mkHid (FJ.out.below hb2)
    have LJ := mkHid (LJ.out.below hb2)
    have FM : Hid (Fc x6 M zm aM lm.length cM) := mkHid (by rw [← hx6, ← hM]; exact Fc.new _ _ _ _ _ 26)
    have LM := mkHid (hO.at.below A2)
    have RM := mkHid (own_cap hO)
    clear hb hb2 hO A2 C10
    obtain ⟨a0, a1'⟩ := FA.out
    obtain ⟨b0, b1⟩ := FB.out
    go_wp2_with fail
    clear hx6 hM a0 a1' b0 b1
    refine (C11.out _ LA.out LB.out IS.out GS.out).mono ?_
    rintro e w7 ⟨aW, cW, rfl, hO, hb⟩
    obtain ⟨W, hW⟩ : ∃ q, w7.heap.size = q := ⟨_, rfl⟩
    obtain ⟨x7, hx7⟩ : ∃ x, w7.alloc (.cells #[.int .i64 zw, .slice aW lw.length cW] 26) = x := ⟨_, rfl⟩
    have A2 : Below w7.heap.size w7 x7 := by rw [← hx7]; exact below_alloc _ _
    have hb2 := below_step hb A2
    have BE := mkHid (below_step BE.out hb2)
    have FA := mkHid (FA.out.below hb2)
    have FB := mkHid (FB.out.below hb2)
    have LA := mkHid (LA.out.below hb2)
    have LB := mkHid (LB.out.below hb2)
    have IS := mkHid (IS.out.below hb2)
    have GS := mkHid (Nat.lt_of_lt_of_le GS.out hb2.size)
    have FJ := mkHid (FJ.out.below hb2)
    have LJ := mkHid (LJ.out.below hb2)
    have FM := mkHid (FM.out.below hb2)
    have LM := mkHid (LM.out.below hb2)
    have FW : Hid (Fc x7 W zw aW lw.length cW) := mkHid (by rw [← hx7, ← hW]; exact Fc.new _ _ _ _ _ 26)
    have LW := mkHid (hO.at.below A2)
    have RW := mkHid (own_cap hO)
    clear hb hb2 hO A2 C11
    have hA9 : ∀ v', Below x7.heap.size x7 v' → v'.cell? ⟨A, 0, none⟩ = some (.int .i64 (q : Int)) ∧ v'.cell? ⟨A, 1, none⟩ = some (.slice ao l.length cp) := fun v' h => FA.out.below h
    have hB9 : ∀ v', Below x7.heap.size x7 v' → v'.cell? ⟨A + 1, 0, none⟩ = some (.int .i64 (q : Int)) ∧ v'.cell? ⟨A + 1, 1, none⟩ = some (.slice ao' l'.length cp') := fun v' h => FB.out.below h
    have hJ9 : ∀ v', Below x7.heap.size x7 v' → v'.cell? ⟨J, 0, none⟩ = some (.int .i64 zj) ∧ v'.cell? ⟨J, 1, none⟩ = some (.slice aJ lj.length cJ) := fun v' h => FJ.out.below h
    have hM9 : ∀ v', Below x7.heap.size x7 v' → v'.cell? ⟨M, 0, none⟩ = some (.int .i64 zm) ∧ v'.cell? ⟨M, 1, none⟩ = some (.slice aM lm.length cM) := fun v' h => FM.out.below h
    have hW9 : ∀ v', Below x7.heap.size x7 v' → v'.cell? ⟨W, 0, none⟩ = some (.int .i64 zw) ∧ v'.cell? ⟨W, 1, none⟩ = some (.slice aW lw.length cW) := fun v' h => FW.out.below h
    go_wp2_with fail
    clear hx7 hW
    refine wp_region_inv2 (fun zA0 L zA v9 => ∃ (zB : Nat → Bool) (zS : Nat → Value) (qa0 : Option Addr) (qc0 : Nat) (qa1 : Option Addr) (qc1 : Nat) (qa2 : Option Addr) (qc2 : Nat), L = #[zB 0, zB 1, zB 2, zB 3, zB 4, zB 5, zB 6, zB 7, zB 8, zB 9, zB 10, zB 11, zB 12, zB 13, zB 14, zB 15, zB 16, zB 17, zB 18, zB 19, zB 20, zB 21, zB 22] ∧ zA = puts zA0 [(63, zS 63), (64, zS 64), (65, zS 65), (66, zS 66), (67, zS 67), (68, zS 68), (69, zS 69), (70, zS 70), (71, zS 71), (72, zS 72), (73, zS 73), (74, zS 74), (75, zS 75), (76, zS 76), (77, zS 77), (78, zS 78), (79, zS 79), (80, zS 80), (81, zS 81), (82, zS 82), (83, zS 83), (84, zS 84), (85, zS 85)] ∧ ((zB 0 = true → zS 63 = .agg #[.int .i64 zj, .slice aJ lj.length cJ]) ∧ (zB 1 = true → zS 64 = .agg #[.int .i64 (q : Int), .slice ao l.length cp]) ∧ (zB 2 = true → zS 65 = .agg #[.int .i64 (q : Int), .slice ao' l'.length cp']) ∧ (zB 3 = true → zS 66 = .agg #[.int .i64 zj, .slice qa0 lj.length qc0]) ∧ (zB 4 = true → zS 67 = .bool true) ∧ (zB 5 = true → zS 68 = .bool false) ∧ (zB 6 = true → zS 69 = .bool false) ∧ (zB 7 = true → zS 70 = .agg #[.int .i64 zm, .slice aM lm.length cM]) ∧ (zB 8 = true → zS 71 = .agg #[.int .i64 (q : Int), .slice ao l.length cp]) ∧ (zB 9 = true → zS 72 = .agg #[.int .i64 (q : Int), .slice ao' l'.length cp']) ∧ (zB 10 = true → zS 73 = .agg #[.int .i64 zm, .slice qa1 lm.length qc1]) ∧ (zB 11 = true → zS 74 = .bool true) ∧ (zB 12 = true → zS 75 = .bool false) ∧ (zB 13 = true → zS 76 = .bool false) ∧ (zB 14 = true → zS 77 = .bool false) ∧ (zB 15 = true → zS 78 = .agg #[.int .i64 zw, .slice aW lw.length cW]) ∧ (zB 16 = true → zS 79 = .agg #[.int .i64 (q : Int), .slice ao l.length cp]) ∧ (zB 17 = true → zS 80 = .agg #[.int .i64 (q : Int), .slice ao' l'.length cp']) ∧ (zB 18 = true → zS 81 = .slice (some ⟨gs, 0, none⟩) st.length cs) ∧ (zB 19 = true → zS 82 = .agg #[.int .i64 zw, .slice qa2 lw.length qc2]) ∧ (zB 20 = true → zS 83 = .bool true) ∧ (zB 21 = true → zS 84 = .bool false) ∧ (zB 22 = true → zS 85 = .bool false)) ∧ Below x7.heap.size x7 v9 ∧ ((zB 3) = true → IntsAt v9 qa0 lj) ∧ ((zB 10) = true → IntsAt v9 qa1 lm) ∧ ((zB 19) = true → IntsAt v9 qa2 lw)) (by kernel_rfl) ?_ ?_ ?_
    · exact ⟨fun _ => false, fun _ => undef, none, 0, none, 0, none, 0, rfl, by kernel_rfl, ⟨fun e => ft e, fun e => ft e, fun e => ft e, fun e => ft e, fun e => ft e, fun e => ft e, fun e => ft e, fun e => ft e, fun e => ft e, fun e => ft e, fun e => ft e, fun e => ft e, fun e => ft e, fun e => ft e, fun e => ft e, fun e => ft e, fun e => ft e, fun e => ft e, fun e => ft e, fun e => ft e, fun e => ft e, fun e => ft e, fun e => ft e⟩, ⟨(Below.refl _ _).drew, fun e => ft e, fun e => ft e, fun e => ft e⟩⟩
    · refine StepsI.cons rfl ?_ ?_
      · rintro L zA v9 ⟨zB, zS, qa0, qc0, qa1, qc1, qa2, qc2, rfl, rfl, hF, hW⟩ hL hm K hK
        have hb0 : zB 0 = false := by simpa using hL
        clear hL hm
        simp only [puts, Act.put, List.setIfInBounds_toArray, List.set_cons_zero, List.set_cons_succ]
        obtain ⟨k0, k1⟩ := hJ9 _ hW.1
        go_simp
        exact hK.out _ _ ⟨fun zj => if zj = 0 then true else zB zj, fun zd => if zd = 63 then .agg #[.int .i64 zj, .slice aJ lj.length cJ] else zS zd, qa0, qc0, qa1, qc1, qa2, qc2, rfl, by kernel_rfl, ⟨fun _ => rfl, hF.2.1, hF.2.2.1, hF.2.2.2.1, hF.2.2.2.2.1, hF.2.2.2.2.2.1, hF.2.2.2.2.2.2.1, hF.2.2.2.2.2.2.2.1, hF.2.2.2.2.2.2.2.2.1, hF.2.2.2.2.2.2.2.2.2.1, hF.2.2.2.2.2.2.2.2.2.2.1, hF.2.2.2.2.2.2.2.2.2.2.2.1, hF.2.2.2.2.2.2.2.2.2.2.2.2.1, hF.2.2.2.2.2.2.2.2.2.2.2.2.2.1, hF.2.2.2.2.2.2.2.2.2.2.2.2.2.2.1, hF.2.2.2.2.2.2.2.2.2.2.2.2.2.2.2.1, hF.2.2.2.2.2.2.2.2.2.2.2.2.2.2.2.2.1, hF.2.2.2.2.2.2.2.2.2.2.2.2.2.2.2.2.2.1, hF.2.2.2.2.2.2.2.2.2.2.2.2.2.2.2.2.2.2.1, hF.2.2.2.2.2.2.2.2.2.2.2.2.2.2.2.2.2.2.2.1, hF.2.2.2.2.2.2.2.2.2.2.2.2.2.2.2.2.2.2.2.2.1, hF.2.2.2.2.2.2.2.2.2.2.2.2.2.2.2.2.2.2.2.2.2.1, hF.2.2.2.2.2.2.2.2.2.2.2.2.2.2.2.2.2.2.2.2.2.2⟩, hW⟩
      refine StepsI.cons rfl ?_ ?_
      · rintro L zA v9 ⟨zB, zS, qa0, qc0, qa1, qc1, qa2, qc2, rfl, rfl, hF, hW⟩ hL hm K hK
        have hb1 : zB 1 = false := by simpa using hL
        clear hL hm
        simp only [puts, Act.put, List.setIfInBounds_toArray, List.set_cons_zero, List.set_cons_succ]
        obtain ⟨k0, k1⟩ := hA9 _ hW.1
        go_simp
        exact hK.out _ _ ⟨fun zj => if zj = 1 then true else zB zj, fun zd => if zd = 64 then .agg #[.int .i64 (q : Int), .slice ao l.length cp] else zS zd, qa0, qc0, qa1, qc1, qa2, qc2, rfl, by kernel_rfl, ⟨hF.1, fun _ => rfl, hF.2.2.1, hF.2.2.2.1, hF.2.2.2.2.1, hF.2.2.2.2.2.1, hF.2.2.2.2.2.2.1, hF.2.2.2.2.2.2.2.1, hF.2.2.2.2.2.2.2.2.1, hF.2.2.2.2.2.2.2.2.2.1, hF.2.2.2.2.2.2.2.2.2.2.1, hF.2.2.2.2.2.2.2.2.2.2.2.1, hF.2.2.2.2.2.2.2.2.2.2.2.2.1, hF.2.2.2.2.2.2.2.2.2.2.2.2.2.1, hF.2.2.2.2.2.2.2.2.2.2.2.2.2.2.1, hF.2.2.2.2.2.2.2.2.2.2.2.2.2.2.2.1, hF.2.2.2.2.2.2.2.2.2.2.2.2.2.2.2.2.1, hF.2.2.2.2.2.2.2.2.2.2.2.2.2.2.2.2.2.1, hF.2.2.2.2.2.2.2.2.2.2.2.2.2.2.2.2.2.2.1, hF.2.2.2.2.2.2.2.2.2.2.2.2.2.2.2.2.2.2.2.1, hF.2.2.2.2.2.2.2.2.2.2.2.2.2.2.2.2.2.2.2.2.1, hF.2.2.2.2.2.2.2.2.2.2.2.2.2.2.2.2.2.2.2.2.2.1, hF.2.2.2.2.2.2.2.2.2.2.2.2.2.2.2.2.2.2.2.2.2.2⟩, hW⟩
      refine StepsI.cons rfl ?_ ?_
      · rintro L zA v9 ⟨zB, zS, qa0, qc0, qa1, qc1, qa2, qc2, rfl, rfl, hF, hW⟩ hL hm K hK
        have hb2 : zB 2 = false := by simpa using hL
        clear hL hm
        simp only [puts, Act.put, List.setIfInBounds_toArray, List.set_cons_zero, List.set_cons_succ]
        obtain ⟨k0, k1⟩ := hB9 _ hW.1
        go_simp
        exact hK.out _ _ ⟨fun zj => if zj = 2 then true else zB zj, fun zd => if zd = 65 then .agg #[.int .i64 (q : Int), .slice ao' l'.length cp'] else zS zd, qa0, qc0, qa1, qc1, qa2, qc2, rfl, by kernel_rfl, ⟨hF.1, hF.2.1, fun _ => rfl, hF.2.2.2.1, hF.2.2.2.2.1, hF.2.2.2.2.2.1, hF.2.2.2.2.2.2.1, hF.2.2.2.2.2.2.2.1, hF.2.2.2.2.2.2.2.2.1, hF.2.2.2.2.2.2.2.2.2.1, hF.2.2.2.2.2.2.2.2.2.2.1, hF.2.2.2.2.2.2.2.2.2.2.2.1, hF.2.2.2.2.2.2.2.2.2.2.2.2.1, hF.2.2.2.2.2.2.2.2.2.2.2.2.2.1, hF.2.2.2.2.2.2.2.2.2.2.2.2.2.2.1, hF.2.2.2.2.2.2.2.2.2.2.2.2.2.2.2.1, hF.2.2.2.2.2.2.2.2.2.2.2.2.2.2.2.2.1, hF.2.2.2.2.2.2.2.2.2.2.2.2.2.2.2.2.2.1, hF.2.2.2.2.2.2.2.2.2.2.2.2.2.2.2.2.2.2.1, hF.2.2.2.2.2.2.2.2.2.2.2.2.2.2.2.2.2.2.2.1, hF.2.2.2.2.2.2.2.2.2.2.2.2.2.2.2.2.2.2.2.2.1, hF.2.2.2.2.2.2.2.2.2.2.2.2.2.2.2.2.2.2.2.2.2.1, hF.2.2.2.2.2.2.2.2.2.2.2.2.2.2.2.2.2.2.2.2.2.2⟩, hW⟩
      refine StepsI.cons rfl ?_ ?_
      · rintro L zA v9 ⟨zB, zS, qa0, qc0, qa1, qc1, qa2, qc2, rfl, rfl, hF, hW⟩ hL hm K hK
        have hb3 : zB 3 = false := by simpa using hL
        have hb1 : zB 1 = true := by cases e : zB 1 with | false => (exfalso; revert hm; simp [metB, Region.binds, e]) | true => rfl
        have hb2 : zB 2 = true := by cases e : zB 2 with | false => (exfalso; revert hm; simp [metB, Region.binds, e]) | true => rfl
        have e1 : zS 64 = .agg #[.int .i64 (q : Int), .slice ao l.length cp] := hF.2.1 hb1
        have e2 : zS 65 = .agg #[.int .i64 (q : Int), .slice ao' l'.length cp'] := hF.2.2.1 hb2
        clear hL hm
        rw [hb3] at hW
        simp only [puts, Act.put, List.setIfInBounds_toArray, List.set_cons_zero, List.set_cons_succ]
        simp only [e1, e2]
        go_simp
        refine (C14.out _ (LA.out.below hW.1) (LB.out.below hW.1)).mono ?_
        rintro e v92 ⟨qa9, qc9, rfl, hO2, hb⟩
        go_wp2_with fail
        exact hK.out _ _ ⟨fun zj => if zj = 2 then true else if zj = 1 then true else if zj = 3 then true else zB zj, fun zd => if zd = 66 then .agg #[.int .i64 zj, .slice qa9 lj.length qc9] else if zd = 65 then .agg #[.int .i64 (q : Int), .slice ao' l'.length cp'] else if zd = 64 then .agg #[.int .i64 (q : Int), .slice ao l.length cp] else zS zd, qa9, qc9, qa1, qc1, qa2, qc2, by simp [hb1, hb2], by kernel_rfl, ⟨hF.1, fun _ => rfl, fun _ => rfl, fun _ => rfl, hF.2.2.2.2.1, hF.2.2.2.2.2.1, hF.2.2.2.2.2.2.1, hF.2.2.2.2.2.2.2.1, hF.2.2.2.2.2.2.2.2.1, hF.2.2.2.2.2.2.2.2.2.1, hF.2.2.2.2.2.2.2.2.2.2.1, hF.2.2.2.2.2.2.2.2.2.2.2.1, hF.2.2.2.2.2.2.2.2.2.2.2.2.1, hF.2.2.2.2.2.2.2.2.2.2.2.2.2.1, hF.2.2.2.2.2.2.2.2.2.2.2.2.2.2.1, hF.2.2.2.2.2.2.2.2.2.2.2.2.2.2.2.1, hF.2.2.2.2.2.2.2.2.2.2.2.2.2.2.2.2.1, hF.2.2.2.2.2.2.2.2.2.2.2.2.2.2.2.2.2.1, hF.2.2.2.2.2.2.2.2.2.2.2.2.2.2.2.2.2.2.1, hF.2.2.2.2.2.2.2.2.2.2.2.2.2.2.2.2.2.2.2.1, hF.2.2.2.2.2.2.2.2.2.2.2.2.2.2.2.2.2.2.2.2.1, hF.2.2.2.2.2.2.2.2.2.2.2.2.2.2.2.2.2.2.2.2.2.1, hF.2.2.2.2.2.2.2.2.2.2.2.2.2.2.2.2.2.2.2.2.2.2⟩, ⟨below_step hW.1 hb, fun _ => hO2.at, fun q => (hW.2.2.1 q).below hb, fun q => (hW.2.2.2 q).below hb⟩⟩
      refine StepsI.cons rfl ?_ ?_
      · rintro L zA v9 ⟨zB, zS, qa0, qc0, qa1, qc1, qa2, qc2, rfl, rfl, hF, hW⟩ hL hm K hK
        have hb4 : zB 4 = false := by simpa using hL
        have hb0 : zB 0 = true := by cases e : zB 0 with | false => (exfalso; revert hm; simp [metB, Region.binds, e]) | true => rfl
        have hb3 : zB 3 = true := by cases e : zB 3 with | false => (exfalso; revert hm; simp [metB, Region.binds, e]) | true => rfl
        have e0 : zS 63 = .agg #[.int .i64 zj, .slice aJ lj.length cJ] := hF.1 hb0
        have e3 : zS 66 = .agg #[.int .i64 zj, .slice qa0 lj.length qc0] := hF.2.2.2.1 hb3
        clear hL hm
        rw [hb3] at hW
        simp only [puts, Act.put, List.setIfInBounds_toArray, List.set_cons_zero, List.set_cons_succ]
        simp only [e0, e3]
        go_simp
        refine (sameFacts_ok zj lj _ _ _ _ _ HLJ.out (LJ.out.below hW.1) (hW.2.1 (by first | rfl | trivial))).mono ?_
        rintro e v92 ⟨rfl, hb⟩
        go_wp2_with fail
        exact hK.out _ _ ⟨fun zj => if zj = 3 then true else if zj = 0 then true else if zj = 4 then true else zB zj, fun zd => if zd = 67 then .bool true else if zd = 66 then .agg #[.int .i64 zj, .slice qa0 lj.length qc0] else if zd = 63 then .agg #[.int .i64 zj, .slice aJ lj.length cJ] else zS zd, qa0, qc0, qa1, qc1, qa2, qc2, by simp [hb0, hb3], by kernel_rfl, ⟨fun _ => rfl, hF.2.1, hF.2.2.1, fun _ => rfl, fun _ => rfl, hF.2.2.2.2.2.1, hF.2.2.2.2.2.2.1, hF.2.2.2.2.2.2.2.1, hF.2.2.2.2.2.2.2.2.1, hF.2.2.2.2.2.2.2.2.2.1, hF.2.2.2.2.2.2.2.2.2.2.1, hF.2.2.2.2.2.2.2.2.2.2.2.1, hF.2.2.2.2.2.2.2.2.2.2.2.2.1, hF.2.2.2.2.2.2.2.2.2.2.2.2.2.1, hF.2.2.2.2.2.2.2.2.2.2.2.2.2.2.1, hF.2.2.2.2.2.2.2.2.2.2.2.2.2.2.2.1, hF.2.2.2.2.2.2.2.2.2.2.2.2.2.2.2.2.1, hF.2.2.2.2.2.2.2.2.2.2.2.2.2.2.2.2.2.1, hF.2.2.2.2.2.2.2.2.2.2.2.2.2.2.2.2.2.2.1, hF.2.2.2.2.2.2.2.2.2.2.2.2.2.2.2.2.2.2.2.1, hF.2.2.2.2.2.2.2.2.2.2.2.2.2.2.2.2.2.2.2.2.1, hF.2.2.2.2.2.2.2.2.2.2.2.2.2.2.2.2.2.2.2.2.2.1, hF.2.2.2.2.2.2.2.2.2.2.2.2.2.2.2.2.2.2.2.2.2.2⟩, ⟨below_step hW.1 hb, fun _ => (hW.2.1 (by first | rfl | trivial)).below hb, fun q => (hW.2.2.1 q).below hb, fun q => (hW.2.2.2 q).below hb⟩⟩
      refine StepsI.cons rfl ?_ ?_
      · rintro L zA v9 ⟨zB, zS, qa0, qc0, qa1, qc1, qa2, qc2, rfl, rfl, hF, hW⟩ hL hm K hK
        have hb5 : zB 5 = false := by simpa using hL
        have hb4 : zB 4 = true := by cases e : zB 4 with | false => (exfalso; revert hm; simp [metB, Region.binds, e]) | true => rfl
        have e4 : zS 67 = .bool true := hF.2.2.2.2.1 hb4
        clear hL hm
        simp only [puts, Act.put, List.setIfInBounds_toArray, List.set_cons_zero, List.set_cons_succ]
        simp only [e4]
        go_simp
        exact hK.out _ _ ⟨fun zj => if zj = 4 then true else if zj = 5 then true else zB zj, fun zd => if zd = 68 then .bool false else if zd = 67 then .bool true else zS zd, qa0, qc0, qa1, qc1, qa2, qc2, by simp [hb4], by kernel_rfl, ⟨hF.1, hF.2.1, hF.2.2.1, hF.2.2.2.1, fun _ => rfl, fun _ => rfl, hF.2.2.2.2.2.2.1, hF.2.2.2.2.2.2.2.1, hF.2.2.2.2.2.2.2.2.1, hF.2.2.2.2.2.2.2.2.2.1, hF.2.2.2.2.2.2.2.2.2.2.1, hF.2.2.2.2.2.2.2.2.2.2.2.1, hF.2.2.2.2.2.2.2.2.2.2.2.2.1, hF.2.2.2.2.2.2.2.2.2.2.2.2.2.1, hF.2.2.2.2.2.2.2.2.2.2.2.2.2.2.1, hF.2.2.2.2.2.2.2.2.2.2.2.2.2.2.2.1, hF.2.2.2.2.2.2.2.2.2.2.2.2.2.2.2.2.1, hF.2.2.2.2.2.2.2.2.2.2.2.2.2.2.2.2.2.1, hF.2.2.2.2.2.2.2.2.2.2.2.2.2.2.2.2.2.2.1, hF.2.2.2.2.2.2.2.2.2.2.2.2.2.2.2.2.2.2.2.1, hF.2.2.2.2.2.2.2.2.2.2.2.2.2.2.2.2.2.2.2.2.1, hF.2.2.2.2.2.2.2.2.2.2.2.2.2.2.2.2.2.2.2.2.2.1, hF.2.2.2.2.2.2.2.2.2.2.2.2.2.2.2.2.2.2.2.2.2.2⟩, hW⟩
      refine StepsI.cons rfl ?_ ?_
      · rintro L zA v9 ⟨zB, zS, qa0, qc0, qa1, qc1, qa2, qc2, rfl, rfl, hF, hW⟩ hL hm K hK
        have hb6 : zB 6 = false := by simpa using hL
        have hb5 : zB 5 = true := by cases e : zB 5 with | false => (exfalso; revert hm; simp [metB, Region.binds, e]) | true => rfl
        have e5 : zS 68 = .bool false := hF.2.2.2.2.2.1 hb5
        clear hL hm
        simp only [puts, Act.put, List.setIfInBounds_toArray, List.set_cons_zero, List.set_cons_succ]
        simp only [e5]
        go_simp
        exact hK.out _ _ ⟨fun zj => if zj = 5 then true else if zj = 6 then true else zB zj, fun zd => if zd = 69 then .bool false else if zd = 68 then .bool false else zS zd, qa0, qc0, qa1, qc1, qa2, qc2, by simp [hb5], by kernel_rfl, ⟨hF.1, hF.2.1, hF.2.2.1, hF.2.2.2.1, hF.2.2.2.2.1, fun _ => rfl, fun _ => rfl, hF.2.2.2.2.2.2.2.1, hF.2.2.2.2.2.2.2.2.1, hF.2.2.2.2.2.2.2.2.2.1, hF.2.2.2.2.2.2.2.2.2.2.1, hF.2.2.2.2.2.2.2.2.2.2.2.1, hF.2.2.2.2.2.2.2.2.2.2.2.2.1, hF.2.2.2.2.2.2.2.2.2.2.2.2.2.1, hF.2.2.2.2.2.2.2.2.2.2.2.2.2.2.1, hF.2.2.2.2.2.2.2.2.2.2.2.2.2.2.2.1, hF.2.2.2.2.2.2.2.2.2.2.2.2.2.2.2.2.1, hF.2.2.2.2.2.2.2.2.2.2.2.2.2.2.2.2.2.1, hF.2.2.2.2.2.2.2.2.2.2.2.2.2.2.2.2.2.2.1, hF.2.2.2.2.2.2.2.2.2.2.2.2.2.2.2.2.2.2.2.1, hF.2.2.2.2.2.2.2.2.2.2.2.2.2.2.2.2.2.2.2.2.1, hF.2.2.2.2.2.2.2.2.2.2.2.2.2.2.2.2.2.2.2.2.2.1, hF.2.2.2.2.2.2.2.2.2.2.2.2.2.2.2.2.2.2.2.2.2.2⟩, hW⟩
      refine StepsI.cons rfl ?_ ?_
      · rintro L zA v9 ⟨zB, zS, qa0, qc0, qa1, qc1, qa2, qc2, rfl, rfl, hF, hW⟩ hL hm K hK
        have hb7 : zB 7 = false := by simpa using hL
        have hb6 : zB 6 = true := by cases e : zB 6 with | false => (exfalso; revert hm; simp [metB, Region.binds, e]) | true => rfl
        have e6 : zS 69 = .bool false := hF.2.2.2.2.2.2.1 hb6
        clear hL hm
        simp only [puts, Act.put, List.setIfInBounds_toArray, List.set_cons_zero, List.set_cons_succ]
        simp only [e6]
        obtain ⟨k0, k1⟩ := hM9 _ hW.1
        go_simp
        exact hK.out _ _ ⟨fun zj => if zj = 6 then true else if zj = 7 then true else zB zj, fun zd => if zd = 70 then .agg #[.int .i64 zm, .slice aM lm.length cM] else if zd = 69 then .bool false else zS zd, qa0, qc0, qa1, qc1, qa2, qc2, by simp [hb6], by kernel_rfl, ⟨hF.1, hF.2.1, hF.2.2.1, hF.2.2.2.1, hF.2.2.2.2.1, hF.2.2.2.2.2.1, fun _ => rfl, fun _ => rfl, hF.2.2.2.2.2.2.2.2.1, hF.2.2.2.2.2.2.2.2.2.1, hF.2.2.2.2.2.2.2.2.2.2.1, hF.2.2.2.2.2.2.2.2.2.2.2.1, hF.2.2.2.2.2.2.2.2.2.2.2.2.1, hF.2.2.2.2.2.2.2.2.2.2.2.2.2.1, hF.2.2.2.2.2.2.2.2.2.2.2.2.2.2.1, hF.2.2.2.2.2.2.2.2.2.2.2.2.2.2.2.1, hF.2.2.2.2.2.2.2.2.2.2.2.2.2.2.2.2.1, hF.2.2.2.2.2.2.2.2.2.2.2.2.2.2.2.2.2.1, hF.2.2.2.2.2.2.2.2.2.2.2.2.2.2.2.2.2.2.1, hF.2.2.2.2.2.2.2.2.2.2.2.2.2.2.2.2.2.2.2.1, hF.2.2.2.2.2.2.2.2.2.2.2.2.2.2.2.2.2.2.2.2.1, hF.2.2.2.2.2.2.2.2.2.2.2.2.2.2.2.2.2.2.2.2.2.1, hF.2.2.2.2.2.2.2.2.2.2.2.2.2.2.2.2.2.2.2.2.2.2⟩, hW⟩
      refine StepsI.cons rfl ?_ ?_
      · rintro L zA v9 ⟨zB, zS, qa0, qc0, qa1, qc1, qa2, qc2, rfl, rfl, hF, hW⟩ hL hm K hK
        have hb8 : zB 8 = false := by simpa using hL
        have hb6 : zB 6 = true := by cases e : zB 6 with | false => (exfalso; revert hm; simp [metB, Region.binds, e]) | true => rfl
        have e6 : zS 69 = .bool false := hF.2.2.2.2.2.2.1 hb6
        clear hL hm
        simp only [puts, Act.put, List.setIfInBounds_toArray, List.set_cons_zero, List.set_cons_succ]
        simp only [e6]
        obtain ⟨k0, k1⟩ := hA9 _ hW.1
        go_simp
        exact hK.out _ _ ⟨fun zj => if zj = 6 then true else if zj = 8 then true else zB zj, fun zd => if zd = 71 then .agg #[.int .i64 (q : Int), .slice ao l.length cp] else if zd = 69 then .bool false else zS zd, qa0, qc0, qa1, qc1, qa2, qc2, by simp [hb6], by kernel_rfl, ⟨hF.1, hF.2.1, hF.2.2.1, hF.2.2.2.1, hF.2.2.2.2.1, hF.2.2.2.2.2.1, fun _ => rfl, hF.2.2.2.2.2.2.2.1, fun _ => rfl, hF.2.2.2.2.2.2.2.2.2.1, hF.2.2.2.2.2.2.2.2.2.2.1, hF.2.2.2.2.2.2.2.2.2.2.2.1, hF.2.2.2.2.2.2.2.2.2.2.2.2.1, hF.2.2.2.2.2.2.2.2.2.2.2.2.2.1, hF.2.2.2.2.2.2.2.2.2.2.2.2.2.2.1, hF.2.2.2.2.2.2.2.2.2.2.2.2.2.2.2.1, hF.2.2.2.2.2.2.2.2.2.2.2.2.2.2.2.2.1, hF.2.2.2.2.2.2.2.2.2.2.2.2.2.2.2.2.2.1, hF.2.2.2.2.2.2.2.2.2.2.2.2.2.2.2.2.2.2.1, hF.2.2.2.2.2.2.2.2.2.2.2.2.2.2.2.2.2.2.2.1, hF.2.2.2.2.2.2.2.2.2.2.2.2.2.2.2.2.2.2.2.2.1, hF.2.2.2.2.2.2.2.2.2.2.2.2.2.2.2.2.2.2.2.2.2.1, hF.2.2.2.2.2.2.2.2.2.2.2.2.2.2.2.2.2.2.2.2.2.2⟩, hW⟩
      refine StepsI.cons rfl ?_ ?_
      · rintro L zA v9 ⟨zB, zS, qa0, qc0, qa1, qc1, qa2, qc2, rfl, rfl, hF, hW⟩ hL hm K hK
        have hb9 : zB 9 = false := by simpa using hL
        have hb6 : zB 6 = true := by cases e : zB 6 with | false => (exfalso; revert hm; simp [metB, Region.binds, e]) | true => rfl
        have e6 : zS 69 = .bool false := hF.2.2.2.2.2.2.1 hb6
        clear hL hm
        simp only [puts, Act.put, List.setIfInBounds_toArray, List.set_cons_zero, List.set_cons_succ]
        simp only [e6]
        obtain ⟨k0, k1⟩ := hB9 _ hW.1
        go_simp
        exact hK.out _ _ ⟨fun zj => if zj = 6 then true else if zj = 9 then true else zB zj, fun zd => if zd = 72 then .agg #[.int .i64 (q : Int), .slice ao' l'.length cp'] else if zd = 69 then .bool false else zS zd, qa0, qc0, qa1, qc1, qa2, qc2, by simp [hb6], by kernel_rfl, ⟨hF.1, hF.2.1, hF.2.2.1, hF.2.2.2.1, hF.2.2.2.2.1, hF.2.2.2.2.2.1, fun _ => rfl, hF.2.2.2.2.2.2.2.1, hF.2.2.2.2.2.2.2.2.1, fun _ => rfl, hF.2.2.2.2.2.2.2.2.2.2.1, hF.2.2.2.2.2.2.2.2.2.2.2.1, hF.2.2.2.2.2.2.2.2.2.2.2.2.1, hF.2.2.2.2.2.2.2.2.2.2.2.2.2.1, hF.2.2.2.2.2.2.2.2.2.2.2.2.2.2.1, hF.2.2.2.2.2.2.2.2.2.2.2.2.2.2.2.1, hF.2.2.2.2.2.2.2.2.2.2.2.2.2.2.2.2.1, hF.2.2.2.2.2.2.2.2.2.2.2.2.2.2.2.2.2.1, hF.2.2.2.2.2.2.2.2.2.2.2.2.2.2.2.2.2.2.1, hF.2.2.2.2.2.2.2.2.2.2.2.2.2.2.2.2.2.2.2.1, hF.2.2.2.2.2.2.2.2.2.2.2.2.2.2.2.2.2.2.2.2.1, hF.2.2.2.2.2.2.2.2.2.2.2.2.2.2.2.2.2.2.2.2.2.1, hF.2.2.2.2.2.2.2.2.2.2.2.2.2.2.2.2.2.2.2.2.2.2⟩, hW⟩
      refine StepsI.cons rfl ?_ ?_
      · rintro L zA v9 ⟨zB, zS, qa0, qc0, qa1, qc1, qa2, qc2, rfl, rfl, hF, hW⟩ hL hm K hK
        have hb10 : zB 10 = false := by simpa using hL
        have hb6 : zB 6 = true := by cases e : zB 6 with | false => (exfalso; revert hm; simp [metB, Region.binds, e]) | true => rfl
        have hb8 : zB 8 = true := by cases e : zB 8 with | false => (exfalso; revert hm; simp [metB, Region.binds, e]) | true => rfl
        have hb9 : zB 9 = true := by cases e : zB 9 with | false => (exfalso; revert hm; simp [metB, Region.binds, e]) | true => rfl
        have e6 : zS 69 = .bool false := hF.2.2.2.2.2.2.1 hb6
        have e8 : zS 71 = .agg #[.int .i64 (q : Int), .slice ao l.length cp] := hF.2.2.2.2.2.2.2.2.1 hb8
        have e9 : zS 72 = .agg #[.int .i64 (q : Int), .slice ao' l'.length cp'] := hF.2.2.2.2.2.2.2.2.2.1 hb9
        clear hL hm
        rw [hb10] at hW
        simp only [puts, Act.put, List.setIfInBounds_toArray, List.set_cons_zero, List.set_cons_succ]
        simp only [e6, e8, e9]
        go_simp
        refine (C15.out _ (LA.out.below hW.1) (LB.out.below hW.1)).mono ?_
        rintro e v92 ⟨qa9, qc9, rfl, hO2, hb⟩
        go_wp2_with fail
        exact hK.out _ _ ⟨fun zj => if zj = 9 then true else if zj = 8 then true else if zj = 6 then true else if zj = 10 then true else zB zj, fun zd => if zd = 73 then .agg #[.int .i64 zm, .slice qa9 lm.length qc9] else if zd = 72 then .agg #[.int .i64 (q : Int), .slice ao' l'.length cp'] else if zd = 71 then .agg #[.int .i64 (q : Int), .slice ao l.length cp] else if zd = 69 then .bool false else zS zd, qa0, qc0, qa9, qc9, qa2, qc2, by simp [hb6, hb8, hb9], by kernel_rfl, ⟨hF.1, hF.2.1, hF.2.2.1, hF.2.2.2.1, hF.2.2.2.2.1, hF.2.2.2.2.2.1, fun _ => rfl, hF.2.2.2.2.2.2.2.1, fun _ => rfl, fun _ => rfl, fun _ => rfl, hF.2.2.2.2.2.2.2.2.2.2.2.1, hF.2.2.2.2.2.2.2.2.2.2.2.2.1, hF.2.2.2.2.2.2.2.2.2.2.2.2.2.1, hF.2.2.2.2.2.2.2.2.2.2.2.2.2.2.1, hF.2.2.2.2.2.2.2.2.2.2.2.2.2.2.2.1, hF.2.2.2.2.2.2.2.2.2.2.2.2.2.2.2.2.1, hF.2.2.2.2.2.2.2.2.2.2.2.2.2.2.2.2.2.1, hF.2.2.2.2.2.2.2.2.2.2.2.2.2.2.2.2.2.2.1, hF.2.2.2.2.2.2.2.2.2.2.2.2.2.2.2.2.2.2.2.1, hF.2.2.2.2.2.2.2.2.2.2.2.2.2.2.2.2.2.2.2.2.1, hF.2.2.2.2.2.2.2.2.2.2.2.2.2.2.2.2.2.2.2.2.2.1, hF.2.2.2.2.2.2.2.2.2.2.2.2.2.2.2.2.2.2.2.2.2.2⟩, ⟨below_step hW.1 hb, fun q => (hW.2.1 q).below hb, fun _ => hO2.at, fun q => (hW.2.2.2 q).below hb⟩⟩
      refine StepsI.cons rfl ?_ ?_
      · rintro L zA v9 ⟨zB, zS, qa0, qc0, qa1, qc1, qa2, qc2, rfl, rfl, hF, hW⟩ hL hm K hK
        have hb11 : zB 11 = false := by simpa using hL
        have hb6 : zB 6 = true := by cases e : zB 6 with | false => (exfalso; revert hm; simp [metB, Region.binds, e]) | true => rfl
        have hb7 : zB 7 = true := by cases e : zB 7 with | false => (exfalso; revert hm; simp [metB, Region.binds, e]) | true => rfl
        have hb10 : zB 10 = true := by cases e : zB 10 with | false => (exfalso; revert hm; simp [metB, Region.binds, e]) | true => rfl
        have e6 : zS 69 = .bool false := hF.2.2.2.2.2.2.1 hb6
        have e7 : zS 70 = .agg #[.int .i64 zm, .slice aM lm.length cM] := hF.2.2.2.2.2.2.2.1 hb7
        have e10 : zS 73 = .agg #[.int .i64 zm, .slice qa1 lm.length qc1] := hF.2.2.2.2.2.2.2.2.2.2.1 hb10
        clear hL hm
        rw [hb10] at hW
        simp only [puts, Act.put, List.setIfInBounds_toArray, List.set_cons_zero, List.set_cons_succ]
        simp only [e6, e7, e10]
        go_simp
        refine (sameFacts_ok zm lm _ _ _ _ _ HLM.out (LM.out.below hW.1) (hW.2.2.1 (by first | rfl | trivial))).mono ?_
        rintro e v92 ⟨rfl, hb⟩
        go_wp2_with fail
        exact hK.out _ _ ⟨fun zj => if zj = 10 then true else if zj = 7 then true else if zj = 6 then true else if zj = 11 then true else zB zj, fun zd => if zd = 74 then .bool true else if zd = 73 then .agg #[.int .i64 zm, .slice qa1 lm.length qc1] else if zd = 70 then .agg #[.int .i64 zm, .slice aM lm.length cM] else if zd = 69 then .bool false else zS zd, qa0, qc0, qa1, qc1, qa2, qc2, by simp [hb6, hb7, hb10], by kernel_rfl, ⟨hF.1, hF.2.1, hF.2.2.1, hF.2.2.2.1, hF.2.2.2.2.1, hF.2.2.2.2.2.1, fun _ => rfl, fun _ => rfl, hF.2.2.2.2.2.2.2.2.1, hF.2.2.2.2.2.2.2.2.2.1, fun _ => rfl, fun _ => rfl, hF.2.2.2.2.2.2.2.2.2.2.2.2.1, hF.2.2.2.2.2.2.2.2.2.2.2.2.2.1, hF.2.2.2.2.2.2.2.2.2.2.2.2.2.2.1, hF.2.2.2.2.2.2.2.2.2.2.2.2.2.2.2.1, hF.2.2.2.2.2.2.2.2.2.2.2.2.2.2.2.2.1, hF.2.2.2.2.2.2.2.2.2.2.2.2.2.2.2.2.2.1, hF.2.2.2.2.2.2.2.2.2.2.2.2.2.2.2.2.2.2.1, hF.2.2.2.2.2.2.2.2.2.2.2.2.2.2.2.2.2.2.2.1, hF.2.2.2.2.2.2.2.2.2.2.2.2.2.2.2.2.2.2.2.2.1, hF.2.2.2.2.2.2.2.2.2.2.2.2.2.2.2.2.2.2.2.2.2.1, hF.2.2.2.2.2.2.2.2.2.2.2.2.2.2.2.2.2.2.2.2.2.2⟩, ⟨below_step hW.1 hb, fun q => (hW.2.1 q).below hb, fun _ => (hW.2.2.1 (by first | rfl | trivial)).below hb, fun q => (hW.2.2.2 q).below hb⟩⟩
      refine StepsI.cons rfl ?_ ?_
      · rintro L zA v9 ⟨zB, zS, qa0, qc0, qa1, qc1, qa2, qc2, rfl, rfl, hF, hW⟩ hL hm K hK
        have hb12 : zB 12 = false := by simpa using hL
        have hb6 : zB 6 = true := by cases e : zB 6 with | false => (exfalso; revert hm; simp [metB, Region.binds, e]) | true => rfl
        have hb11 : zB 11 = true := by cases e : zB 11 with | false => (exfalso; revert hm; simp [metB, Region.binds, e]) | true => rfl
        have e6 : zS 69 = .bool false := hF.2.2.2.2.2.2.1 hb6
        have e11 : zS 74 = .bool true := hF.2.2.2.2.2.2.2.2.2.2.2.1 hb11
        clear hL hm
        simp only [puts, Act.put, List.setIfInBounds_toArray, List.set_cons_zero, List.set_cons_succ]
        simp only [e6, e11]
        go_simp
        exact hK.out _ _ ⟨fun zj => if zj = 11 then true else if zj = 6 then true else if zj = 12 then true else zB zj, fun zd => if zd = 75 then .bool false else if zd = 74 then .bool true else if zd = 69 then .bool false else zS zd, qa0, qc0, qa1, qc1, qa2, qc2, by simp [hb6, hb11], by kernel_rfl, ⟨hF.1, hF.2.1, hF.2.2.1, hF.2.2.2.1, hF.2.2.2.2.1, hF.2.2.2.2.2.1, fun _ => rfl, hF.2.2.2.2.2.2.2.1, hF.2.2.2.2.2.2.2.2.1, hF.2.2.2.2.2.2.2.2.2.1, hF.2.2.2.2.2.2.2.2.2.2.1, fun _ => rfl, fun _ => rfl, hF.2.2.2.2.2.2.2.2.2.2.2.2.2.1, hF.2.2.2.2.2.2.2.2.2.2.2.2.2.2.1, hF.2.2.2.2.2.2.2.2.2.2.2.2.2.2.2.1, hF.2.2.2.2.2.2.2.2.2.2.2.2.2.2.2.2.1, hF.2.2.2.2.2.2.2.2.2.2.2.2.2.2.2.2.2.1, hF.2.2.2.2.2.2.2.2.2.2.2.2.2.2.2.2.2.2.1, hF.2.2.2.2.2.2.2.2.2.2.2.2.2.2.2.2.2.2.2.1, hF.2.2.2.2.2.2.2.2.2.2.2.2.2.2.2.2.2.2.2.2.1, hF.2.2.2.2.2.2.2.2.2.2.2.2.2.2.2.2.2.2.2.2.2.1, hF.2.2.2.2.2.2.2.2.2.2.2.2.2.2.2.2.2.2.2.2.2.2⟩, hW⟩
      refine StepsI.cons rfl ?_ ?_
      · rintro L zA v9 ⟨zB, zS, qa0, qc0, qa1, qc1, qa2, qc2, rfl, rfl, hF, hW⟩ hL hm K hK
        have hb13 : zB 13 = false := by simpa using hL
        have hb6 : zB 6 = true := by cases e : zB 6 with | false => (exfalso; revert hm; simp [metB, Region.binds, e]) | true => rfl
        have hb12 : zB 12 = true := by cases e : zB 12 with | false => (exfalso; revert hm; simp [metB, Region.binds, e]) | true => rfl
        have e6 : zS 69 = .bool false := hF.2.2.2.2.2.2.1 hb6
        have e12 : zS 75 = .bool false := hF.2.2.2.2.2.2.2.2.2.2.2.2.1 hb12
        clear hL hm
        simp only [puts, Act.put, List.setIfInBounds_toArray, List.set_cons_zero, List.set_cons_succ]
        simp only [e6, e12]
        go_simp
        exact hK.out _ _ ⟨fun zj => if zj = 12 then true else if zj = 6 then true else if zj = 13 then true else zB zj, fun zd => if zd = 76 then .bool false else if zd = 75 then .bool false else if zd = 69 then .bool false else zS zd, qa0, qc0, qa1, qc1, qa2, qc2, by simp [hb6, hb12], by kernel_rfl, ⟨hF.1, hF.2.1, hF.2.2.1, hF.2.2.2.1, hF.2.2.2.2.1, hF.2.2.2.2.2.1, fun _ => rfl, hF.2.2.2.2.2.2.2.1, hF.2.2.2.2.2.2.2.2.1, hF.2.2.2.2.2.2.2.2.2.1, hF.2.2.2.2.2.2.2.2.2.2.1, hF.2.2.2.2.2.2.2.2.2.2.2.1, fun _ => rfl, fun _ => rfl, hF.2.2.2.2.2.2.2.2.2.2.2.2.2.2.1, hF.2.2.2.2.2.2.2.2.2.2.2.2.2.2.2.1, hF.2.2.2.2.2.2.2.2.2.2.2.2.2.2.2.2.1, hF.2.2.2.2.2.2.2.2.2.2.2.2.2.2.2.2.2.1, hF.2.2.2.2.2.2.2.2.2.2.2.2.2.2.2.2.2.2.1, hF.2.2.2.2.2.2.2.2.2.2.2.2.2.2.2.2.2.2.2.1, hF.2.2.2.2.2.2.2.2.2.2.2.2.2.2.2.2.2.2.2.2.1, hF.2.2.2.2.2.2.2.2.2.2.2.2.2.2.2.2.2.2.2.2.2.1, hF.2.2.2.2.2.2.2.2.2.2.2.2.2.2.2.2.2.2.2.2.2.2⟩, hW⟩
      refine StepsI.cons rfl ?_ ?_
      · rintro L zA v9 ⟨zB, zS, qa0, qc0, qa1, qc1, qa2, qc2, rfl, rfl, hF, hW⟩ hL hm K hK
        have hb14 : zB 14 = false := by simpa using hL
        have hb13 : zB 13 = true := by cases e : zB 13 with | false => (exfalso; revert hm; simp [metB, Region.binds, e]) | true => rfl
        have e13 : zS 76 = .bool false := hF.2.2.2.2.2.2.2.2.2.2.2.2.2.1 hb13
        clear hL hm
        simp only [puts, Act.put, List.setIfInBounds_toArray, List.set_cons_zero, List.set_cons_succ]
        simp only [e13]
        go_simp
        exact hK.out _ _ ⟨fun zj => if zj = 13 then true else if zj = 14 then true else zB zj, fun zd => if zd = 77 then .bool false else if zd = 76 then .bool false else zS zd, qa0, qc0, qa1, qc1, qa2, qc2, by simp [hb13], by kernel_rfl, ⟨hF.1, hF.2.1, hF.2.2.1, hF.2.2.2.1, hF.2.2.2.2.1, hF.2.2.2.2.2.1, hF.2.2.2.2.2.2.1, hF.2.2.2.2.2.2.2.1, hF.2.2.2.2.2.2.2.2.1, hF.2.2.2.2.2.2.2.2.2.1, hF.2.2.2.2.2.2.2.2.2.2.1, hF.2.2.2.2.2.2.2.2.2.2.2.1, hF.2.2.2.2.2.2.2.2.2.2.2.2.1, fun _ => rfl, fun _ => rfl, hF.2.2.2.2.2.2.2.2.2.2.2.2.2.2.2.1, hF.2.2.2.2.2.2.2.2.2.2.2.2.2.2.2.2.1, hF.2.2.2.2.2.2.2.2.2.2.2.2.2.2.2.2.2.1, hF.2.2.2.2.2.2.2.2.2.2.2.2.2.2.2.2.2.2.1, hF.2.2.2.2.2.2.2.2.2.2.2.2.2.2.2.2.2.2.2.1, hF.2.2.2.2.2.2.2.2.2.2.2.2.2.2.2.2.2.2.2.2.1, hF.2.2.2.2.2.2.2.2.2.2.2.2.2.2.2.2.2.2.2.2.2.1, hF.2.2.2.2.2.2.2.2.2.2.2.2.2.2.2.2.2.2.2.2.2.2⟩, hW⟩
      refine StepsI.cons rfl ?_ ?_
      · rintro L zA v9 ⟨zB, zS, qa0, qc0, qa1, qc1, qa2, qc2, rfl, rfl, hF, hW⟩ hL hm K hK
        have hb15 : zB 15 = false := by simpa using hL
        have hb14 : zB 14 = true := by cases e : zB 14 with | false => (exfalso; revert hm; simp [metB, Region.binds, e]) | true => rfl
        have e14 : zS 77 = .bool false := hF.2.2.2.2.2.2.2.2.2.2.2.2.2.2.1 hb14
        clear hL hm
        simp only [puts, Act.put, List.setIfInBounds_toArray, List.set_cons_zero, List.set_cons_succ]
        simp only [e14]
        obtain ⟨k0, k1⟩ := hW9 _ hW.1
        go_simp
        exact hK.out _ _ ⟨fun zj => if zj = 14 then true else if zj = 15 then true else zB zj, fun zd => if zd = 78 then .agg #[.int .i64 zw, .slice aW lw.length cW] else if zd = 77 then .bool false else zS zd, qa0, qc0, qa1, qc1, qa2, qc2, by simp [hb14], by kernel_rfl, ⟨hF.1, hF.2.1, hF.2.2.1, hF.2.2.2.1, hF.2.2.2.2.1, hF.2.2.2.2.2.1, hF.2.2.2.2.2.2.1, hF.2.2.2.2.2.2.2.1, hF.2.2.2.2.2.2.2.2.1, hF.2.2.2.2.2.2.2.2.2.1, hF.2.2.2.2.2.2.2.2.2.2.1, hF.2.2.2.2.2.2.2.2.2.2.2.1, hF.2.2.2.2.2.2.2.2.2.2.2.2.1, hF.2.2.2.2.2.2.2.2.2.2.2.2.2.1, fun _ => rfl, fun _ => rfl, hF.2.2.2.2.2.2.2.2.2.2.2.2.2.2.2.2.1, hF.2.2.2.2.2.2.2.2.2.2.2.2.2.2.2.2.2.1, hF.2.2.2.2.2.2.2.2.2.2.2.2.2.2.2.2.2.2.1, hF.2.2.2.2.2.2.2.2.2.2.2.2.2.2.2.2.2.2.2.1, hF.2.2.2.2.2.2.2.2.2.2.2.2.2.2.2.2.2.2.2.2.1, hF.2.2.2.2.2.2.2.2.2.2.2.2.2.2.2.2.2.2.2.2.2.1, hF.2.2.2.2.2.2.2.2.2.2.2.2.2.2.2.2.2.2.2.2.2.2⟩, hW⟩
      refine StepsI.cons rfl ?_ ?_
      · rintro L zA v9 ⟨zB, zS, qa0, qc0, qa1, qc1, qa2, qc2, rfl, rfl, hF, hW⟩ hL hm K hK
        have hb16 : zB 16 = false := by simpa using hL
        have hb14 : zB 14 = true := by cases e : zB 14 with | false => (exfalso; revert hm; simp [metB, Region.binds, e]) | true => rfl
        have e14 : zS 77 = .bool false := hF.2.2.2.2.2.2.2.2.2.2.2.2.2.2.1 hb14
        clear hL hm
        simp only [puts, Act.put, List.setIfInBounds_toArray, List.set_cons_zero, List.set_cons_succ]
        simp only [e14]
        obtain ⟨k0, k1⟩ := hA9 _ hW.1
        go_simp
        exact hK.out _ _ ⟨fun zj => if zj = 14 then true else if zj = 16 then true else zB zj, fun zd => if zd = 79 then .agg #[.int .i64 (q : Int), .slice ao l.length cp] else if zd = 77 then .bool false else zS zd, qa0, qc0, qa1, qc1, qa2, qc2, by simp [hb14], by kernel_rfl, ⟨hF.1, hF.2.1, hF.2.2.1, hF.2.2.2.1, hF.2.2.2.2.1, hF.2.2.2.2.2.1, hF.2.2.2.2.2.2.1, hF.2.2.2.2.2.2.2.1, hF.2.2.2.2.2.2.2.2.1, hF.2.2.2.2.2.2.2.2.2.1, hF.2.2.2.2.2.2.2.2.2.2.1, hF.2.2.2.2.2.2.2.2.2.2.2.1, hF.2.2.2.2.2.2.2.2.2.2.2.2.1, hF.2.2.2.2.2.2.2.2.2.2.2.2.2.1, fun _ => rfl, hF.2.2.2.2.2.2.2.2.2.2.2.2.2.2.2.1, fun _ => rfl, hF.2.2.2.2.2.2.2.2.2.2.2.2.2.2.2.2.2.1, hF.2.2.2.2.2.2.2.2.2.2.2.2.2.2.2.2.2.2.1, hF.2.2.2.2.2.2.2.2.2.2.2.2.2.2.2.2.2.2.2.1, hF.2.2.2.2.2.2.2.2.2.2.2.2.2.2.2.2.2.2.2.2.1, hF.2.2.2.2.2.2.2.2.2.2.2.2.2.2.2.2.2.2.2.2.2.1, hF.2.2.2.2.2.2.2.2.2.2.2.2.2.2.2.2.2.2.2.2.2.2⟩, hW⟩
      refine StepsI.cons rfl ?_ ?_
      · rintro L zA v9 ⟨zB, zS, qa0, qc0, qa1, qc1, qa2, qc2, rfl, rfl, hF, hW⟩ hL hm K hK
        have hb17 : zB 17 = false := by simpa using hL
        have hb14 : zB 14 = true := by cases e : zB 14 with | false => (exfalso; revert hm; simp [metB, Region.binds, e]) | true => rfl
        have e14 : zS 77 = .bool false := hF.2.2.2.2.2.2.2.2.2.2.2.2.2.2.1 hb14
        clear hL hm
        simp only [puts, Act.put, List.setIfInBounds_toArray, List.set_cons_zero, List.set_cons_succ]
        simp only [e14]
        obtain ⟨k0, k1⟩ := hB9 _ hW.1
        go_simp
        exact hK.out _ _ ⟨fun zj => if zj = 14 then true else if zj = 17 then true else zB zj, fun zd => if zd = 80 then .agg #[.int .i64 (q : Int), .slice ao' l'.length cp'] else if zd = 77 then .bool false else zS zd, qa0, qc0, qa1, qc1, qa2, qc2, by simp [hb14], by kernel_rfl, ⟨hF.1, hF.2.1, hF.2.2.1, hF.2.2.2.1, hF.2.2.2.2.1, hF.2.2.2.2.2.1, hF.2.2.2.2.2.2.1, hF.2.2.2.2.2.2.2.1, hF.2.2.2.2.2.2.2.2.1, hF.2.2.2.2.2.2.2.2.2.1, hF.2.2.2.2.2.2.2.2.2.2.1, hF.2.2.2.2.2.2.2.2.2.2.2.1, hF.2.2.2.2.2.2.2.2.2.2.2.2.1, hF.2.2.2.2.2.2.2.2.2.2.2.2.2.1, fun _ => rfl, hF.2.2.2.2.2.2.2.2.2.2.2.2.2.2.2.1, hF.2.2.2.2.2.2.2.2.2.2.2.2.2.2.2.2.1, fun _ => rfl, hF.2.2.2.2.2.2.2.2.2.2.2.2.2.2.2.2.2.2.1, hF.2.2.2.2.2.2.2.2.2.2.2.2.2.2.2.2.2.2.2.1, hF.2.2.2.2.2.2.2.2.2.2.2.2.2.2.2.2.2.2.2.2.1, hF.2.2.2.2.2.2.2.2.2.2.2.2.2.2.2.2.2.2.2.2.2.1, hF.2.2.2.2.2.2.2.2.2.2.2.2.2.2.2.2.2.2.2.2.2.2⟩, hW⟩
      refine StepsI.cons rfl ?_ ?_
      · rintro L zA v9 ⟨zB, zS, qa0, qc0, qa1, qc1, qa2, qc2, rfl, rfl, hF, hW⟩ hL hm K hK
        have hb18 : zB 18 = false := by simpa using hL
        have hb14 : zB 14 = true := by cases e : zB 14 with | false => (exfalso; revert hm; simp [metB, Region.binds, e]) | true => rfl
        have e14 : zS 77 = .bool false := hF.2.2.2.2.2.2.2.2.2.2.2.2.2.2.1 hb14
        clear hL hm
        simp only [puts, Act.put, List.setIfInBounds_toArray, List.set_cons_zero, List.set_cons_succ]
        simp only [e14]
        go_simp
        exact hK.out _ _ ⟨fun zj => if zj = 14 then true else if zj = 18 then true else zB zj, fun zd => if zd = 81 then .slice (some ⟨gs, 0, none⟩) st.length cs else if zd = 77 then .bool false else zS zd, qa0, qc0, qa1, qc1, qa2, qc2, by simp [hb14], by kernel_rfl, ⟨hF.1, hF.2.1, hF.2.2.1, hF.2.2.2.1, hF.2.2.2.2.1, hF.2.2.2.2.2.1, hF.2.2.2.2.2.2.1, hF.2.2.2.2.2.2.2.1, hF.2.2.2.2.2.2.2.2.1, hF.2.2.2.2.2.2.2.2.2.1, hF.2.2.2.2.2.2.2.2.2.2.1, hF.2.2.2.2.2.2.2.2.2.2.2.1, hF.2.2.2.2.2.2.2.2.2.2.2.2.1, hF.2.2.2.2.2.2.2.2.2.2.2.2.2.1, fun _ => rfl, hF.2.2.2.2.2.2.2.2.2.2.2.2.2.2.2.1, hF.2.2.2.2.2.2.2.2.2.2.2.2.2.2.2.2.1, hF.2.2.2.2.2.2.2.2.2.2.2.2.2.2.2.2.2.1, fun _ => rfl, hF.2.2.2.2.2.2.2.2.2.2.2.2.2.2.2.2.2.2.2.1, hF.2.2.2.2.2.2.2.2.2.2.2.2.2.2.2.2.2.2.2.2.1, hF.2.2.2.2.2.2.2.2.2.2.2.2.2.2.2.2.2.2.2.2.2.1, hF.2.2.2.2.2.2.2.2.2.2.2.2.2.2.2.2.2.2.2.2.2.2⟩, hW⟩
      refine StepsI.cons rfl ?_ ?_
      · rintro L zA v9 ⟨zB, zS, qa0, qc0, qa1, qc1, qa2, qc2, rfl, rfl, hF, hW⟩ hL hm K hK
        have hb19 : zB 19 = false := by simpa using hL
        have hb14 : zB 14 = true := by cases e : zB 14 with | false => (exfalso; revert hm; simp [metB, Region.binds, e]) | true => rfl
        have hb16 : zB 16 = true := by cases e : zB 16 with | false => (exfalso; revert hm; simp [metB, Region.binds, e]) | true => rfl
        have hb17 : zB 17 = true := by cases e : zB 17 with | false => (exfalso; revert hm; simp [metB, Region.binds, e]) | true => rfl
        have hb18 : zB 18 = true := by cases e : zB 18 with | false => (exfalso; revert hm; simp [metB, Region.binds, e]) | true => rfl
        have e14 : zS 77 = .bool false := hF.2.2.2.2.2.2.2.2.2.2.2.2.2.2.1 hb14
        have e16 : zS 79 = .agg #[.int .i64 (q : Int), .slice ao l.length cp] := hF.2.2.2.2.2.2.2.2.2.2.2.2.2.2.2.2.1 hb16
        have e17 : zS 80 = .agg #[.int .i64 (q : Int), .slice ao' l'.length cp'] := hF.2.2.2.2.2.2.2.2.2.2.2.2.2.2.2.2.2.1 hb17
        have e18 : zS 81 = .slice (some ⟨gs, 0, none⟩) st.length cs := hF.2.2.2.2.2.2.2.2.2.2.2.2.2.2.2.2.2.2.1 hb18
        clear hL hm
        rw [hb19] at hW
        simp only [puts, Act.put, List.setIfInBounds_toArray, List.set_cons_zero, List.set_cons_succ]
        simp only [e14, e16, e17, e18]
        go_simp
        refine (C16.out _ (LA.out.below hW.1) (LB.out.below hW.1) (IS.out.below hW.1)).mono ?_
        rintro e v92 ⟨qa9, qc9, rfl, hO2, hb⟩
        go_wp2_with fail
        exact hK.out _ _ ⟨fun zj => if zj = 18 then true else if zj = 17 then true else if zj = 16 then true else if zj = 14 then true else if zj = 19 then true else zB zj, fun zd => if zd = 82 then .agg #[.int .i64 zw, .slice qa9 lw.length qc9] else if zd = 81 then .slice (some ⟨gs, 0, none⟩) st.length cs else if zd = 80 then .agg #[.int .i64 (q : Int), .slice ao' l'.length cp'] else if zd = 79 then .agg #[.int .i64 (q : Int), .slice ao l.length cp] else if zd = 77 then .bool false else zS zd, qa0, qc0, qa1, qc1, qa9, qc9, by simp [hb14, hb16, hb17, hb18], by kernel_rfl, ⟨hF.1, hF.2.1, hF.2.2.1, hF.2.2.2.1, hF.2.2.2.2.1, hF.2.2.2.2.2.1, hF.2.2.2.2.2.2.1, hF.2.2.2.2.2.2.2.1, hF.2.2.2.2.2.2.2.2.1, hF.2.2.2.2.2.2.2.2.2.1, hF.2.2.2.2.2.2.2.2.2.2.1, hF.2.2.2.2.2.2.2.2.2.2.2.1, hF.2.2.2.2.2.2.2.2.2.2.2.2.1, hF.2.2.2.2.2.2.2.2.2.2.2.2.2.1, fun _ => rfl, hF.2.2.2.2.2.2.2.2.2.2.2.2.2.2.2.1, fun _ => rfl, fun _ => rfl, fun _ => rfl, fun _ => rfl, hF.2.2.2.2.2.2.2.2.2.2.2.2.2.2.2.2.2.2.2.2.1, hF.2.2.2.2.2.2.2.2.2.2.2.2.2.2.2.2.2.2.2.2.2.1, hF.2.2.2.2.2.2.2.2.2.2.2.2.2.2.2.2.2.2.2.2.2.2⟩, ⟨below_step hW.1 hb, fun q => (hW.2.1 q).below hb, fun q => (hW.2.2.1 q).below hb, fun _ => hO2.at⟩⟩
      refine StepsI.cons rfl ?_ ?_
      · rintro L zA v9 ⟨zB, zS, qa0, qc0, qa1, qc1, qa2, qc2, rfl, rfl, hF, hW⟩ hL hm K hK
        have hb20 : zB 20 = false := by simpa using hL
        have hb14 : zB 14 = true := by cases e : zB 14 with | false => (exfalso; revert hm; simp [metB, Region.binds, e]) | true => rfl
        have hb15 : zB 15 = true := by cases e : zB 15 with | false => (exfalso; revert hm; simp [metB, Region.binds, e]) | true => rfl
        have hb19 : zB 19 = true := by cases e : zB 19 with | false => (exfalso; revert hm; simp [metB, Region.binds, e]) | true => rfl
        have e14 : zS 77 = .bool false := hF.2.2.2.2.2.2.2.2.2.2.2.2.2.2.1 hb14
        have e15 : zS 78 = .agg #[.int .i64 zw, .slice aW lw.length cW] := hF.2.2.2.2.2.2.2.2.2.2.2.2.2.2.2.1 hb15
        have e19 : zS 82 = .agg #[.int .i64 zw, .slice qa2 lw.length qc2] := hF.2.2.2.2.2.2.2.2.2.2.2.2.2.2.2.2.2.2.2.1 hb19
        clear hL hm
        rw [hb19] at hW
        simp only [puts, Act.put, List.setIfInBounds_toArray, List.set_cons_zero, List.set_cons_succ]
        simp only [e14, e15, e19]
        go_simp
        refine (sameFacts_ok zw lw _ _ _ _ _ HLW.out (LW.out.below hW.1) (hW.2.2.2 (by first | rfl | trivial))).mono ?_
        rintro e v92 ⟨rfl, hb⟩
        go_wp2_with fail
        exact hK.out _ _ ⟨fun zj => if zj = 19 then true else if zj = 15 then true else if zj = 14 then true else if zj = 20 then true else zB zj, fun zd => if zd = 83 then .bool true else if zd = 82 then .agg #[.int .i64 zw, .slice qa2 lw.length qc2] else if zd = 78 then .agg #[.int .i64 zw, .slice aW lw.length cW] else if zd = 77 then .bool false else zS zd, qa0, qc0, qa1, qc1, qa2, qc2, by simp [hb14, hb15, hb19], by kernel_rfl, ⟨hF.1, hF.2.1, hF.2.2.1, hF.2.2.2.1, hF.2.2.2.2.1, hF.2.2.2.2.2.1, hF.2.2.2.2.2.2.1, hF.2.2.2.2.2.2.2.1, hF.2.2.2.2.2.2.2.2.1, hF.2.2.2.2.2.2.2.2.2.1, hF.2.2.2.2.2.2.2.2.2.2.1, hF.2.2.2.2.2.2.2.2.2.2.2.1, hF.2.2.2.2.2.2.2.2.2.2.2.2.1, hF.2.2.2.2.2.2.2.2.2.2.2.2.2.1, fun _ => rfl, fun _ => rfl, hF.2.2.2.2.2.2.2.2.2.2.2.2.2.2.2.2.1, hF.2.2.2.2.2.2.2.2.2.2.2.2.2.2.2.2.2.1, hF.2.2.2.2.2.2.2.2.2.2.2.2.2.2.2.2.2.2.1, fun _ => rfl, fun _ => rfl, hF.2.2.2.2.2.2.2.2.2.2.2.2.2.2.2.2.2.2.2.2.2.1, hF.2.2.2.2.2.2.2.2.2.2.2.2.2.2.2.2.2.2.2.2.2.2⟩, ⟨below_step hW.1 hb, fun q => (hW.2.1 q).below hb, fun q => (hW.2.2.1 q).below hb, fun _ => (hW.2.2.2 (by first | rfl | trivial)).below hb⟩⟩
      refine StepsI.cons rfl ?_ ?_
      · rintro L zA v9 ⟨zB, zS, qa0, qc0, qa1, qc1, qa2, qc2, rfl, rfl, hF, hW⟩ hL hm K hK
        have hb21 : zB 21 = false := by simpa using hL
        have hb14 : zB 14 = true := by cases e : zB 14 with | false => (exfalso; revert hm; simp [metB, Region.binds, e]) | true => rfl
        have hb20 : zB 20 = true := by cases e : zB 20 with | false => (exfalso; revert hm; simp [metB, Region.binds, e]) | true => rfl
        have e14 : zS 77 = .bool false := hF.2.2.2.2.2.2.2.2.2.2.2.2.2.2.1 hb14
        have e20 : zS 83 = .bool true := hF.2.2.2.2.2.2.2.2.2.2.2.2.2.2.2.2.2.2.2.2.1 hb20
        clear hL hm
        simp only [puts, Act.put, List.setIfInBounds_toArray, List.set_cons_zero, List.set_cons_succ]
        simp only [e14, e20]
        go_simp
        exact hK.out _ _ ⟨fun zj => if zj = 20 then true else if zj = 14 then true else if zj = 21 then true else zB zj, fun zd => if zd = 84 then .bool false else if zd = 83 then .bool true else if zd = 77 then .bool false else zS zd, qa0, qc0, qa1, qc1, qa2, qc2, by simp [hb14, hb20], by kernel_rfl, ⟨hF.1, hF.2.1, hF.2.2.1, hF.2.2.2.1, hF.2.2.2.2.1, hF.2.2.2.2.2.1, hF.2.2.2.2.2.2.1, hF.2.2.2.2.2.2.2.1, hF.2.2.2.2.2.2.2.2.1, hF.2.2.2.2.2.2.2.2.2.1, hF.2.2.2.2.2.2.2.2.2.2.1, hF.2.2.2.2.2.2.2.2.2.2.2.1, hF.2.2.2.2.2.2.2.2.2.2.2.2.1, hF.2.2.2.2.2.2.2.2.2.2.2.2.2.1, fun _ => rfl, hF.2.2.2.2.2.2.2.2.2.2.2.2.2.2.2.1, hF.2.2.2.2.2.2.2.2.2.2.2.2.2.2.2.2.1, hF.2.2.2.2.2.2.2.2.2.2.2.2.2.2.2.2.2.1, hF.2.2.2.2.2.2.2.2.2.2.2.2.2.2.2.2.2.2.1, hF.2.2.2.2.2.2.2.2.2.2.2.2.2.2.2.2.2.2.2.1, fun _ => rfl, fun _ => rfl, hF.2.2.2.2.2.2.2.2.2.2.2.2.2.2.2.2.2.2.2.2.2.2⟩, hW⟩
      refine StepsI.cons rfl ?_ ?_
      · rintro L zA v9 ⟨zB, zS, qa0, qc0, qa1, qc1, qa2, qc2, rfl, rfl, hF, hW⟩ hL hm K hK
        have hb22 : zB 22 = false := by simpa using hL
        have hb14 : zB 14 = true := by cases e : zB 14 with | false => (exfalso; revert hm; simp [metB, Region.binds, e]) | true => rfl
        have hb21 : zB 21 = true := by cases e : zB 21 with | false => (exfalso; revert hm; simp [metB, Region.binds, e]) | true => rfl
        have e14 : zS 77 = .bool false := hF.2.2.2.2.2.2.2.2.2.2.2.2.2.2.1 hb14
        have e21 : zS 84 = .bool false := hF.2.2.2.2.2.2.2.2.2.2.2.2.2.2.2.2.2.2.2.2.2.1 hb21
        clear hL hm
        simp only [puts, Act.put, List.setIfInBounds_toArray, List.set_cons_zero, List.set_cons_succ]
        simp only [e14, e21]
        go_simp
        exact hK.out _ _ ⟨fun zj => if zj = 21 then true else if zj = 14 then true else if zj = 22 then true else zB zj, fun zd => if zd = 85 then .bool false else if zd = 84 then .bool false else if zd = 77 then .bool false else zS zd, qa0, qc0, qa1, qc1, qa2, qc2, by simp [hb14, hb21], by kernel_rfl, ⟨hF.1, hF.2.1, hF.2.2.1, hF.2.2.2.1, hF.2.2.2.2.1, hF.2.2.2.2.2.1, hF.2.2.2.2.2.2.1, hF.2.2.2.2.2.2.2.1, hF.2.2.2.2.2.2.2.2.1, hF.2.2.2.2.2.2.2.2.2.1, hF.2.2.2.2.2.2.2.2.2.2.1, hF.2.2.2.2.2.2.2.2.2.2.2.1, hF.2.2.2.2.2.2.2.2.2.2.2.2.1, hF.2.2.2.2.2.2.2.2.2.2.2.2.2.1, fun _ => rfl, hF.2.2.2.2.2.2.2.2.2.2.2.2.2.2.2.1, hF.2.2.2.2.2.2.2.2.2.2.2.2.2.2.2.2.1, hF.2.2.2.2.2.2.2.2.2.2.2.2.2.2.2.2.2.1, hF.2.2.2.2.2.2.2.2.2.2.2.2.2.2.2.2.2.2.1, hF.2.2.2.2.2.2.2.2.2.2.2.2.2.2.2.2.2.2.2.1, hF.2.2.2.2.2.2.2.2.2.2.2.2.2.2.2.2.2.2.2.2.1, fun _ => rfl, fun _ => rfl⟩, hW⟩
      exact StepsI.nil (by kernel_rfl)
    · rintro L zA v9 ⟨zB, zS, qa0, qc0, qa1, qc1, qa2, qc2, rfl, rfl, hF, hW⟩ hr
      have hu := all_up (by kernel_rfl) (N := 23) (by kernel_rfl) hr
      have hb0 : zB 0 = true := by simpa using hu 0 (by decide)
      have hb1 : zB 1 = true := by simpa using hu 1 (by decide)
      have hb2 : zB 2 = true := by simpa using hu 2 (by decide)
      have hb3 : zB 3 = true := by simpa using hu 3 (by decide)
      have hb4 : zB 4 = true := by simpa using hu 4 (by decide)
      have hb5 : zB 5 = true := by simpa using hu 5 (by decide)
      have hb6 : zB 6 = true := by simpa using hu 6 (by decide)
      have hb7 : zB 7 = true := by simpa using hu 7 (by decide)
      have hb8 : zB 8 = true := by simpa using hu 8 (by decide)
      have hb9 : zB 9 = true := by simpa using hu 9 (by decide)
      have hb10 : zB 10 = true := by simpa using hu 10 (by decide)
      have hb11 : zB 11 = true := by simpa using hu 11 (by decide)
      have hb12 : zB 12 = true := by simpa using hu 12 (by decide)
      have hb13 : zB 13 = true := by simpa using hu 13 (by decide)
      have hb14 : zB 14 = true := by simpa using hu 14 (by decide)
      have hb15 : zB 15 = true := by simpa using hu 15 (by decide)
      have hb16 : zB 16 = true := by simpa using hu 16 (by decide)
      have hb17 : zB 17 = true := by simpa using hu 17 (by decide)
      have hb18 : zB 18 = true := by simpa using hu 18 (by decide)
      have hb19 : zB 19 = true := by simpa using hu 19 (by decide)
      have hb20 : zB 20 = true := by simpa using hu 20 (by decide)
      have hb21 : zB 21 = true := by simpa using hu 21 (by decide)
      have hb22 : zB 22 = true := by simpa using hu 22 (by decide)
      have e0 : zS 63 = .agg #[.int .i64 zj, .slice aJ lj.length cJ] := hF.1 hb0
      have e1 : zS 64 = .agg #[.int .i64 (q : Int), .slice ao l.length cp] := hF.2.1 hb1
      have e2 : zS 65 = .agg #[.int .i64 (q : Int), .slice ao' l'.length cp'] := hF.2.2.1 hb2
      have e3 : zS 66 = .agg #[.int .i64 zj, .slice qa0 lj.length qc0] := hF.2.2.2.1 hb3
      have e4 : zS 67 = .bool true := hF.2.2.2.2.1 hb4
      have e5 : zS 68 = .bool false := hF.2.2.2.2.2.1 hb5
      have e6 : zS 69 = .bool false := hF.2.2.2.2.2.2.1 hb6
      have e7 : zS 70 = .agg #[.int .i64 zm, .slice aM lm.length cM] := hF.2.2.2.2.2.2.2.1 hb7
      have e8 : zS 71 = .agg #[.int .i64 (q : Int), .slice ao l.length cp] := hF.2.2.2.2.2.2.2.2.1 hb8
      have e9 : zS 72 = .agg #[.int .i64 (q : Int), .slice ao' l'.length cp'] := hF.2.2.2.2.2.2.2.2.2.1 hb9
      have e10 : zS 73 = .agg #[.int .i64 zm, .slice qa1 lm.length qc1] := hF.2.2.2.2.2.2.2.2.2.2.1 hb10
      have e11 : zS 74 = .bool true := hF.2.2.2.2.2.2.2.2.2.2.2.1 hb11
      have e12 : zS 75 = .bool false := hF.2.2.2.2.2.2.2.2.2.2.2.2.1 hb12
      have e13 : zS 76 = .bool false := hF.2.2.2.2.2.2.2.2.2.2.2.2.2.1 hb13
      have e14 : zS 77 = .bool false := hF.2.2.2.2.2.2.2.2.2.2.2.2.2.2.1 hb14
      have e15 : zS 78 = .agg #[.int .i64 zw, .slice aW lw.length cW] := hF.2.2.2.2.2.2.2.2.2.2.2.2.2.2.2.1 hb15
      have e16 : zS 79 = .agg #[.int .i64 (q : Int), .slice ao l.length cp] := hF.2.2.2.2.2.2.2.2.2.2.2.2.2.2.2.2.1 hb16
      have e17 : zS 80 = .agg #[.int .i64 (q : Int), .slice ao' l'.length cp'] := hF.2.2.2.2.2.2.2.2.2.2.2.2.2.2.2.2.2.1 hb17
      have e18 : zS 81 = .slice (some ⟨gs, 0, none⟩) st.length cs := hF.2.2.2.2.2.2.2.2.2.2.2.2.2.2.2.2.2.2.1 hb18
      have e19 : zS 82 = .agg #[.int .i64 zw, .slice qa2 lw.length qc2] := hF.2.2.2.2.2.2.2.2.2.2.2.2.2.2.2.2.2.2.2.1 hb19
      have e20 : zS 83 = .bool true := hF.2.2.2.2.2.2.2.2.2.2.2.2.2.2.2.2.2.2.2.2.1 hb20
      have e21 : zS 84 = .bool false := hF.2.2.2.2.2.2.2.2.2.2.2.2.2.2.2.2.2.2.2.2.2.1 hb21
      have e22 : zS 85 = .bool false := hF.2.2.2.2.2.2.2.2.2.2.2.2.2.2.2.2.2.2.2.2.2.2 hb22
      rw [hb3] at hW
      rw [hb10] at hW
      rw [hb19] at hW
      clear hu hr hF
      simp only [puts, Act.put, List.setIfInBounds_toArray, List.set_cons_zero, List.set_cons_succ]
      simp only [e0, e1, e2, e3, e4, e5, e6, e7, e8, e9, e10, e11, e12, e13, e14, e15, e16, e17, e18, e19, e20, e21, e22]
      clear e0 e1 e2 e3 e4 e5 e6 e7 e8 e9 e10 e11 e12 e13 e14 e15 e16 e17 e18 e19 e20 e21 e22
      clear hb0 hb1 hb2 hb3 hb4 hb5 hb6 hb7 hb8 hb9 hb10 hb11 hb12 hb13 hb14 hb15 hb16 hb17 hb18 hb19 hb20 hb21 hb22
      clear zB zS
      have hb2 := hW.1
      have BE := mkHid (below_step BE.out hb2)
      have FA := mkHid (FA.out.below hb2)
      have FB := mkHid (FB.out.below hb2)
      have LA := mkHid (LA.out.below hb2)
      have LB := mkHid (LB.out.below hb2)
      have IS := mkHid (IS.out.below hb2)
      have GS := mkHid (Nat.lt_of_lt_of_le GS.out hb2.size)
      have FJ := mkHid (FJ.out.below hb2)
      have LJ := mkHid (LJ.out.below hb2)
      have FM := mkHid (FM.out.below hb2)
      have LM := mkHid (LM.out.below hb2)
      have FW := mkHid (FW.out.below hb2)
      have LW := mkHid (LW.out.below hb2)
      clear hb2 hW hA9 hB9 hJ9 hM9 hW9 C14 C15 C16 IS GS
      obtain ⟨k0, k1⟩ := FA.out
      obtain ⟨k2, k3⟩ := FJ.out
      go_wp2_with fail
      clear k0 k1 k2 k3
      have h9 := iLeq_any (q : Int) l ao cp zj lj aJ cJ _ HZ.out.2 RJ.out LA.out LJ.out
      rw [OAJ.out] at h9
      refine h9.mono ?_
      clear h9
      rintro e u3 ⟨rfl, hb2⟩
      have BE := mkHid (below_step BE.out hb2)
      have FA := mkHid (FA.out.below hb2)
      have FB := mkHid (FB.out.below hb2)
      have LA := mkHid (LA.out.below hb2)
      have LB := mkHid (LB.out.below hb2)
      have FJ := mkHid (FJ.out.below hb2)
      have LJ := mkHid (LJ.out.below hb2)
      have FM := mkHid (FM.out.below hb2)
      have LM := mkHid (LM.out.below hb2)
      have FW := mkHid (FW.out.below hb2)
      have LW := mkHid (LW.out.below hb2)
      clear hb2
      obtain ⟨k0, k1⟩ := FB.out
      obtain ⟨k2, k3⟩ := FJ.out
      go_wp2_with fail
      clear k0 k1 k2 k3
      have h9 := iLeq_any (q : Int) l' ao' cp' zj lj aJ cJ _ HZ'.out.2 RJ.out LB.out LJ.out
      rw [OBJ.out] at h9
      refine h9.mono ?_
      clear h9
      rintro e u4 ⟨rfl, hb2⟩
      have BE := mkHid (below_step BE.out hb2)
      have FA := mkHid (FA.out.below hb2)
      have FB := mkHid (FB.out.below hb2)
      have LA := mkHid (LA.out.below hb2)
      have LB := mkHid (LB.out.below hb2)
      have FJ := mkHid (FJ.out.below hb2)
      have LJ := mkHid (LJ.out.below hb2)
      have FM := mkHid (FM.out.below hb2)
      have LM := mkHid (LM.out.below hb2)
      have FW := mkHid (FW.out.below hb2)
      have LW := mkHid (LW.out.below hb2)
      clear hb2
      obtain ⟨k0, k1⟩ := FM.out
      obtain ⟨k2, k3⟩ := FA.out
      go_wp2_with fail
      clear k0 k1 k2 k3
      have h9 := iLeq_any zm lm aM cM (q : Int) l ao cp _ RM.out HZ.out.2 LM.out LA.out
      rw [OMA.out] at h9
      refine h9.mono ?_
      clear h9
      rintro e u5 ⟨rfl, hb2⟩
      have BE := mkHid (below_step BE.out hb2)
      have FA := mkHid (FA.out.below hb2)
      have FB := mkHid (FB.out.below hb2)
      have LA := mkHid (LA.out.below hb2)
      have LB := mkHid (LB.out.below hb2)
      have FJ := mkHid (FJ.out.below hb2)
      have LJ := mkHid (LJ.out.below hb2)
      have FM := mkHid (FM.out.below hb2)
      have LM := mkHid (LM.out.below hb2)
      have FW := mkHid (FW.out.below hb2)
      have LW := mkHid (LW.out.below hb2)
      clear hb2
      obtain ⟨k0, k1⟩ := FM.out
      obtain ⟨k2, k3⟩ := FB.out
      go_wp2_with fail
      clear k0 k1 k2 k3
      have h9 := iLeq_any zm lm aM cM (q : Int) l' ao' cp' _ RM.out HZ'.out.2 LM.out LB.out
      rw [OMB.out] at h9
      refine h9.mono ?_
      clear h9
      rintro e u6 ⟨rfl, hb2⟩
      have BE := mkHid (below_step BE.out hb2)
      have FA := mkHid (FA.out.below hb2)
      have FB := mkHid (FB.out.below hb2)
      have LA := mkHid (LA.out.below hb2)
      have LB := mkHid (LB.out.below hb2)
      have FJ := mkHid (FJ.out.below hb2)
      have LJ := mkHid (LJ.out.below hb2)
      have FM := mkHid (FM.out.below hb2)
      have LM := mkHid (LM.out.below hb2)
      have FW := mkHid (FW.out.below hb2)
      have LW := mkHid (LW.out.below hb2)
      clear hb2
      clear OAJ OBJ OMA OMB FJ LJ FM LM RJ RM HLJ HLM EJ EM
      go_upto_region 16 with fail
      go_cut [123] from 108 (fun s v => s = .bool false ∧ Below u6.heap.size u6 v)
      case first =>
        have BQ := mkHid (Below.refl u6.heap.size u6)
        obtain ⟨k0, k1⟩ := FW.out
        by_cases hsl : 0 < lw.length
        · have hsl2 : (0 : Int) < (lw.length : Int) := by omega
          obtain ⟨k0, k1⟩ := FA.out
          obtain ⟨k2, k3⟩ := FW.out
          go_wp2_with fail
          clear k0 k1 k2 k3
          have h9 := iLeq_any (q : Int) l ao cp zw lw aW cW _ HZ.out.2 RW.out LA.out LW.out
          rw [OWA.out hsl] at h9
          refine h9.mono ?_
          clear h9
          rintro e u7 ⟨rfl, hb2⟩
          have BQ := mkHid (below_step BQ.out hb2)
          have BE := mkHid (below_step BE.out hb2)
          have FA := mkHid (FA.out.below hb2)
          have FB := mkHid (FB.out.below hb2)
          have LA := mkHid (LA.out.below hb2)
          have LB := mkHid (LB.out.below hb2)
          have FW := mkHid (FW.out.below hb2)
          have LW := mkHid (LW.out.below hb2)
          clear hb2
          obtain ⟨k0, k1⟩ := FB.out
          obtain ⟨k2, k3⟩ := FW.out
          go_wp2_with fail
          clear k0 k1 k2 k3
          have h9 := iLeq_any (q : Int) l' ao' cp' zw lw aW cW _ HZ'.out.2 RW.out LB.out LW.out
          rw [OWB.out hsl] at h9
          refine h9.mono ?_
          clear h9
          rintro e u8 ⟨rfl, hb2⟩
          have BQ := mkHid (below_step BQ.out hb2)
          have BE := mkHid (below_step BE.out hb2)
          have FA := mkHid (FA.out.below hb2)
          have FB := mkHid (FB.out.below hb2)
          have LA := mkHid (LA.out.below hb2)
          have LB := mkHid (LB.out.below hb2)
          have FW := mkHid (FW.out.below hb2)
          have LW := mkHid (LW.out.below hb2)
          clear hb2
          go_wp2_with fail
          go_meet
          case rel => exact ⟨rfl, BQ.out⟩
        · have hsl2 : ¬ (0 : Int) < (lw.length : Int) := by omega
          go_wp2_with fail
          go_meet
          case rel => exact ⟨rfl, BQ.out⟩
      case rest =>
        obtain ⟨rfl, hb2⟩ := hcut
        have BE := mkHid (below_step BE.out hb2)
        have FA := mkHid (FA.out.below hb2)
        have FB := mkHid (FB.out.below hb2)
        have LA := mkHid (LA.out.below hb2)
        have LB := mkHid (LB.out.below hb2)
        have FW := mkHid (FW.out.below hb2)
        have LW := mkHid (LW.out.below hb2)
        clear hb2 OWA OWB
        obtain ⟨a0, a1'⟩ := FA.out
        obtain ⟨b0, b1⟩ := FB.out
        go_wp2_with fail
        clear  a0 a1' b0 b1
        refine (C12.out _ LA.out).mono ?_
        rintro e w8 ⟨aX, cX, rfl, hO, hb⟩
        obtain ⟨X, hX⟩ : ∃ q, w8.heap.size = q := ⟨_, rfl⟩
        obtain ⟨x8, hx8⟩ : ∃ x, w8.alloc (.cells #[.int .i64 zx, .slice aX lx.length cX] 26) = x := ⟨_, rfl⟩
        have A2 : Below w8.heap.size w8 x8 := by rw [← hx8]; exact below_alloc _ _
        have hb2 := below_step hb A2
        have BE := mkHid (below_step BE.out hb2)
        have FA := mkHid (FA.out.below hb2)
        have FB := mkHid (FB.out.below hb2)
        have LA := mkHid (LA.out.below hb2)
        have LB := mkHid (LB.out.below hb2)
        have FW := mkHid (FW.out.below hb2)
        have LW := mkHid (LW.out.below hb2)
        have FX : Hid (Fc x8 X zx aX lx.length cX) := mkHid (by rw [← hx8, ← hX]; exact Fc.new _ _ _ _ _ 26)
        have LX := mkHid (hO.at.below A2)
        have RX := mkHid (own_cap hO)
        clear hb hb2 hO A2 C12
        clear FW LW RW HLW EW
        obtain ⟨f0, f1⟩ := FX.out
        go_wp2_with fail
        clear hx8 hX f0 f1
        obtain ⟨sx, hsx⟩ : ∃ b : Bool, decide (0 < lx.length) = b := ⟨_, rfl⟩
        have HSX := mkHid hsx
        clear hsx
        have hA9 : ∀ v', Below x8.heap.size x8 v' → v'.cell? ⟨A, 0, none⟩ = some (.int .i64 (q : Int)) ∧ v'.cell? ⟨A, 1, none⟩ = some (.slice ao l.length cp) := fun v' h => FA.out.below h
        have hB9 : ∀ v', Below x8.heap.size x8 v' → v'.cell? ⟨A + 1, 0, none⟩ = some (.int .i64 (q : Int)) ∧ v'.cell? ⟨A + 1, 1, none⟩ = some (.slice ao' l'.length cp') := fun v' h => FB.out.below h
        have hX9 : ∀ v', Below x8.heap.size x8 v' → v'.cell? ⟨X, 0, none⟩ = some (.int .i64 zx) ∧ v'.cell? ⟨X, 1, none⟩ = some (.slice aX lx.length cX) := fun v' h => FX.out.below h
        have C12 : Hid (sx = true → ∀ v, IntsAt v aX lx → Calls Try.prog 12 #[.agg #[.int .i64 zx, .slice aX lx.length cX]] v fun e w' => Gives v w' e zx lx) := mkHid fun hs v h1 => by have hsx : 0 < lx.length := of_decide_eq_true (HSX.out.trans hs); have e := EX.out; have h9 := iClose_any zx lx aX cX v RX.out h1; have g := close_again (n := q) (l := l) (by rw [e.2]; exact hsx); rw [e.1, e.2] at g; change Calls _ _ _ _ (fun e w' => Gives v w' e (outZ (cF zx lx) zx.toNat) (outL (cF zx lx) zx.toNat)) at h9; rw [g.1, g.2] at h9; exact h9
        refine wp_region_inv2 (fun zA0 L zA v9 => ∃ (zB : Nat → Bool) (zS : Nat → Value) (qa0 : Option Addr) (qc0 : Nat), L = #[zB 0, zB 1, zB 2, zB 3, zB 4, zB 5, zB 6, zB 7, zB 8, zB 9, zB 10] ∧ zA = puts zA0 [(126, zS 126), (127, zS 127), (128, zS 128), (129, zS 129), (130, zS 130), (131, zS 131), (132, zS 132), (133, zS 133), (134, zS 134), (135, zS 135), (136, zS 136)] ∧ ((zB 0 = true → zS 126 = .pointer (some ⟨X, 1, none⟩)) ∧ (zB 1 = true → zS 127 = .slice aX lx.length cX) ∧ (zB 2 = true → zS 128 = .int .i64 (lx.length : Int)) ∧ (zB 3 = true → zS 129 = .bool sx) ∧ (zB 4 = true → zS 130 = .bool sx) ∧ (zB 5 = true → zS 131 = selV sx (.agg #[.int .i64 zx, .slice aX lx.length cX]) undef) ∧ (zB 6 = true → zS 132 = selV sx (.agg #[.int .i64 zx, .slice qa0 lx.length qc0]) undef) ∧ (zB 7 = true → zS 133 = selV sx (.agg #[.int .i64 zx, .slice aX lx.length cX]) undef) ∧ (zB 8 = true → zS 134 = selV sx (.bool true) undef) ∧ (zB 9 = true → zS 135 = selV sx (.bool false) undef) ∧ (zB 10 = true → zS 136 = .bool false)) ∧ Below x8.heap.size x8 v9 ∧ ((zB 6) = true → sx = true → IntsAt v9 qa0 lx)) (by kernel_rfl) ?_ ?_ ?_
        · exact ⟨fun _ => false, fun zd => if zd = 136 then u136 else if zd = 135 then u135 else if zd = 134 then u134 else if zd = 133 then u133 else if zd = 132 then u132 else if zd = 131 then u131 else if zd = 130 then u130 else if zd = 129 then u129 else if zd = 128 then u128 else if zd = 127 then u127 else if zd = 126 then u126 else undef, none, 0, rfl, by kernel_rfl, ⟨fun e => ft e, fun e => ft e, fun e => ft e, fun e => ft e, fun e => ft e, fun e => ft e, fun e => ft e, fun e => ft e, fun e => ft e, fun e => ft e, fun e => ft e⟩, ⟨(Below.refl _ _).drew, fun e => ft e⟩⟩
        · refine StepsI.cons rfl ?_ ?_
          · rintro L zA v9 ⟨zB, zS, qa0, qc0, rfl, rfl, hF, hW⟩ hL hm K hK
            have hb0 : zB 0 = false := by simpa using hL
            clear hL hm
            simp only [puts, Act.put, List.setIfInBounds_toArray, List.set_cons_zero, List.set_cons_succ]
            go_simp
            exact hK.out _ _ ⟨fun zj => if zj = 0 then true else zB zj, fun zd => if zd = 126 then .pointer (some ⟨X, 1, none⟩) else zS zd, qa0, qc0, rfl, by kernel_rfl, ⟨fun _ => rfl, hF.2.1, hF.2.2.1, hF.2.2.2.1, hF.2.2.2.2.1, hF.2.2.2.2.2.1, hF.2.2.2.2.2.2.1, hF.2.2.2.2.2.2.2.1, hF.2.2.2.2.2.2.2.2.1, hF.2.2.2.2.2.2.2.2.2.1, hF.2.2.2.2.2.2.2.2.2.2⟩, hW⟩
          refine StepsI.cons rfl ?_ ?_
          · rintro L zA v9 ⟨zB, zS, qa0, qc0, rfl, rfl, hF, hW⟩ hL hm K hK
            have hb1 : zB 1 = false := by simpa using hL
            have hb0 : zB 0 = true := by cases e : zB 0 with | false => (exfalso; revert hm; simp [metB, Region.binds, e]) | true => rfl
            have e0 : zS 126 = .pointer (some ⟨X, 1, none⟩) := hF.1 hb0
            clear hL hm
            simp only [puts, Act.put, List.setIfInBounds_toArray, List.set_cons_zero, List.set_cons_succ]
            simp only [e0]
            obtain ⟨k0, k1⟩ := hX9 _ hW.1
            go_simp
            exact hK.out _ _ ⟨fun zj => if zj = 0 then true else if zj = 1 then true else zB zj, fun zd => if zd = 127 then .slice aX lx.length cX else if zd = 126 then .pointer (some ⟨X, 1, none⟩) else zS zd, qa0, qc0, by simp [hb0], by kernel_rfl, ⟨fun _ => rfl, fun _ => rfl, hF.2.2.1, hF.2.2.2.1, hF.2.2.2.2.1, hF.2.2.2.2.2.1, hF.2.2.2.2.2.2.1, hF.2.2.2.2.2.2.2.1, hF.2.2.2.2.2.2.2.2.1, hF.2.2.2.2.2.2.2.2.2.1, hF.2.2.2.2.2.2.2.2.2.2⟩, hW⟩
          refine StepsI.cons rfl ?_ ?_
          · rintro L zA v9 ⟨zB, zS, qa0, qc0, rfl, rfl, hF, hW⟩ hL hm K hK
            have hb2 : zB 2 = false := by simpa using hL
            have hb1 : zB 1 = true := by cases e : zB 1 with | false => (exfalso; revert hm; simp [metB, Region.binds, e]) | true => rfl
            have e1 : zS 127 = .slice aX lx.length cX := hF.2.1 hb1
            clear hL hm
            simp only [puts, Act.put, List.setIfInBounds_toArray, List.set_cons_zero, List.set_cons_succ]
            simp only [e1]
            go_simp
            exact hK.out _ _ ⟨fun zj => if zj = 1 then true else if zj = 2 then true else zB zj, fun zd => if zd = 128 then .int .i64 (lx.length : Int) else if zd = 127 then .slice aX lx.length cX else zS zd, qa0, qc0, by simp [hb1], by kernel_rfl, ⟨hF.1, fun _ => rfl, fun _ => rfl, hF.2.2.2.1, hF.2.2.2.2.1, hF.2.2.2.2.2.1, hF.2.2.2.2.2.2.1, hF.2.2.2.2.2.2.2.1, hF.2.2.2.2.2.2.2.2.1, hF.2.2.2.2.2.2.2.2.2.1, hF.2.2.2.2.2.2.2.2.2.2⟩, hW⟩
          refine StepsI.cons rfl ?_ ?_
          · rintro L zA v9 ⟨zB, zS, qa0, qc0, rfl, rfl, hF, hW⟩ hL hm K hK
            cases sx
            · obtain rfl : lx = [] := List.eq_nil_of_length_eq_zero (by have h9 := of_decide_eq_false HSX.out; omega)
              have hb3 : zB 3 = false := by simpa using hL
              have hb2 : zB 2 = true := by cases e : zB 2 with | false => (exfalso; revert hm; simp [metB, Region.binds, e]) | true => rfl
              have e2 : zS 128 = .int .i64 (([] : List Int).length : Int) := hF.2.2.1 hb2
              clear hL hm
              simp only [puts, Act.put, List.setIfInBounds_toArray, List.set_cons_zero, List.set_cons_succ]
              simp only [e2]
              go_simp
              exact hK.out _ _ ⟨fun zj => if zj = 2 then true else if zj = 3 then true else zB zj, fun zd => if zd = 129 then .bool false else if zd = 128 then .int .i64 (([] : List Int).length : Int) else zS zd, qa0, qc0, by simp [hb2], by kernel_rfl, ⟨hF.1, hF.2.1, fun _ => rfl, fun _ => rfl, hF.2.2.2.2.1, hF.2.2.2.2.2.1, hF.2.2.2.2.2.2.1, hF.2.2.2.2.2.2.2.1, hF.2.2.2.2.2.2.2.2.1, hF.2.2.2.2.2.2.2.2.2.1, hF.2.2.2.2.2.2.2.2.2.2⟩, hW⟩
            · have hb3 : zB 3 = false := by simpa using hL
              have hb2 : zB 2 = true := by cases e : zB 2 with | false => (exfalso; revert hm; simp [metB, Region.binds, e]) | true => rfl
              have e2 : zS 128 = .int .i64 (lx.length : Int) := hF.2.2.1 hb2
              clear hL hm
              simp only [puts, Act.put, List.setIfInBounds_toArray, List.set_cons_zero, List.set_cons_succ]
              simp only [e2]
              have hsx : 0 < lx.length := of_decide_eq_true HSX.out
              have hsx2 : (0 : Int) < (lx.length : Int) := by omega
              have hd : decide ((lx.length : Int) > 0) = true := by simpa using hsx2
              go_simp
              exact hK.out _ _ ⟨fun zj => if zj = 2 then true else if zj = 3 then true else zB zj, fun zd => if zd = 129 then .bool true else if zd = 128 then .int .i64 (lx.length : Int) else zS zd, qa0, qc0, by simp [hb2], by kernel_rfl, ⟨hF.1, hF.2.1, fun _ => rfl, fun _ => rfl, hF.2.2.2.2.1, hF.2.2.2.2.2.1, hF.2.2.2.2.2.2.1, hF.2.2.2.2.2.2.2.1, hF.2.2.2.2.2.2.2.2.1, hF.2.2.2.2.2.2.2.2.2.1, hF.2.2.2.2.2.2.2.2.2.2⟩, hW⟩
          refine StepsI.cons rfl ?_ ?_
          · rintro L zA v9 ⟨zB, zS, qa0, qc0, rfl, rfl, hF, hW⟩ hL hm K hK
            have hb4 : zB 4 = false := by simpa using hL
            have hb3 : zB 3 = true := by cases e : zB 3 with | false => (exfalso; revert hm; simp [metB, Region.binds, e]) | true => rfl
            have e3 : zS 129 = .bool sx := hF.2.2.2.1 hb3
            clear hL hm
            simp only [puts, Act.put, List.setIfInBounds_toArray, List.set_cons_zero, List.set_cons_succ]
            simp only [e3]
            go_simp
            exact hK.out _ _ ⟨fun zj => if zj = 3 then true else if zj = 4 then true else zB zj, fun zd => if zd = 130 then .bool sx else if zd = 129 then .bool sx else zS zd, qa0, qc0, by simp [hb3], by kernel_rfl, ⟨hF.1, hF.2.1, hF.2.2.1, fun _ => rfl, fun _ => rfl, hF.2.2.2.2.2.1, hF.2.2.2.2.2.2.1, hF.2.2.2.2.2.2.2.1, hF.2.2.2.2.2.2.2.2.1, hF.2.2.2.2.2.2.2.2.2.1, hF.2.2.2.2.2.2.2.2.2.2⟩, hW⟩
          refine StepsI.cons rfl ?_ ?_
          · rintro L zA v9 ⟨zB, zS, qa0, qc0, rfl, rfl, hF, hW⟩ hL hm K hK
            cases sx
            · have hb5 : zB 5 = false := by simpa using hL
              have hb4 : zB 4 = true := by cases e : zB 4 with | false => (exfalso; revert hm; simp [metB, Region.binds, e]) | true => rfl
              have e4 : zS 130 = .bool false := hF.2.2.2.2.1 hb4
              clear hL hm
              simp only [puts, Act.put, List.setIfInBounds_toArray, List.set_cons_zero, List.set_cons_succ]
              simp only [e4]
              rw [if_neg (by exact Bool.false_ne_true)]
              exact hK.out _ _ ⟨fun zj => if zj = 4 then true else if zj = 5 then true else zB zj, fun zd => if zd = 131 then selV false (.agg #[.int .i64 zx, .slice aX lx.length cX]) undef else if zd = 130 then .bool false else zS zd, qa0, qc0, by simp [hb4], by kernel_rfl, ⟨hF.1, hF.2.1, hF.2.2.1, hF.2.2.2.1, fun _ => rfl, fun _ => rfl, hF.2.2.2.2.2.2.1, hF.2.2.2.2.2.2.2.1, hF.2.2.2.2.2.2.2.2.1, hF.2.2.2.2.2.2.2.2.2.1, hF.2.2.2.2.2.2.2.2.2.2⟩, hW⟩
            · have hb5 : zB 5 = false := by simpa using hL
              have hb4 : zB 4 = true := by cases e : zB 4 with | false => (exfalso; revert hm; simp [metB, Region.binds, e]) | true => rfl
              have e4 : zS 130 = .bool true := hF.2.2.2.2.1 hb4
              clear hL hm
              simp only [puts, Act.put, List.setIfInBounds_toArray, List.set_cons_zero, List.set_cons_succ]
              simp only [e4]
              obtain ⟨k0, k1⟩ := hX9 _ hW.1
              go_simp
              exact hK.out _ _ ⟨fun zj => if zj = 4 then true else if zj = 5 then true else zB zj, fun zd => if zd = 131 then selV true (.agg #[.int .i64 zx, .slice aX lx.length cX]) undef else if zd = 130 then .bool true else zS zd, qa0, qc0, by simp [hb4], by kernel_rfl, ⟨hF.1, hF.2.1, hF.2.2.1, hF.2.2.2.1, fun _ => rfl, fun _ => rfl, hF.2.2.2.2.2.2.1, hF.2.2.2.2.2.2.2.1, hF.2.2.2.2.2.2.2.2.1, hF.2.2.2.2.2.2.2.2.2.1, hF.2.2.2.2.2.2.2.2.2.2⟩, hW⟩
          refine StepsI.cons rfl ?_ ?_
          · rintro L zA v9 ⟨zB, zS, qa0, qc0, rfl, rfl, hF, hW⟩ hL hm K hK
            cases sx
            · have hb6 : zB 6 = false := by simpa using hL
              have hb4 : zB 4 = true := by cases e : zB 4 with | false => (exfalso; revert hm; simp [metB, Region.binds, e]) | true => rfl
              have e4 : zS 130 = .bool false := hF.2.2.2.2.1 hb4
              clear hL hm
              rw [hb6] at hW
              simp only [puts, Act.put, List.setIfInBounds_toArray, List.set_cons_zero, List.set_cons_succ]
              simp only [e4]
              rw [if_neg (by exact Bool.false_ne_true)]
              exact hK.out _ _ ⟨fun zj => if zj = 4 then true else if zj = 6 then true else zB zj, fun zd => if zd = 132 then selV false (.agg #[.int .i64 zx, .slice qa0 lx.length qc0]) undef else if zd = 130 then .bool false else zS zd, qa0, qc0, by simp [hb4], by kernel_rfl, ⟨hF.1, hF.2.1, hF.2.2.1, hF.2.2.2.1, fun _ => rfl, hF.2.2.2.2.2.1, fun _ => rfl, hF.2.2.2.2.2.2.2.1, hF.2.2.2.2.2.2.2.2.1, hF.2.2.2.2.2.2.2.2.2.1, hF.2.2.2.2.2.2.2.2.2.2⟩, ⟨hW.1, fun _ e => ft e⟩⟩
            · have hb6 : zB 6 = false := by simpa using hL
              have hb4 : zB 4 = true := by cases e : zB 4 with | false => (exfalso; revert hm; simp [metB, Region.binds, e]) | true => rfl
              have hb5 : zB 5 = true := by cases e : zB 5 with | false => (exfalso; revert hm; simp [metB, Region.binds, e]) | true => rfl
              have e4 : zS 130 = .bool true := hF.2.2.2.2.1 hb4
              have e5 : zS 131 = .agg #[.int .i64 zx, .slice aX lx.length cX] := hF.2.2.2.2.2.1 hb5
              clear hL hm
              rw [hb6] at hW
              simp only [puts, Act.put, List.setIfInBounds_toArray, List.set_cons_zero, List.set_cons_succ]
              simp only [e4, e5]
              go_simp
              refine (C12.out rfl _ (LX.out.below hW.1)).mono ?_
              rintro e v92 ⟨qa9, qc9, rfl, hO2, hb⟩
              go_wp2_with fail
              exact hK.out _ _ ⟨fun zj => if zj = 5 then true else if zj = 4 then true else if zj = 6 then true else zB zj, fun zd => if zd = 132 then selV true (.agg #[.int .i64 zx, .slice qa9 lx.length qc9]) undef else if zd = 131 then selV true (.agg #[.int .i64 zx, .slice aX lx.length cX]) undef else if zd = 130 then .bool true else zS zd, qa9, qc9, by simp [hb4, hb5], by kernel_rfl, ⟨hF.1, hF.2.1, hF.2.2.1, hF.2.2.2.1, fun _ => rfl, fun _ => rfl, fun _ => rfl, hF.2.2.2.2.2.2.2.1, hF.2.2.2.2.2.2.2.2.1, hF.2.2.2.2.2.2.2.2.2.1, hF.2.2.2.2.2.2.2.2.2.2⟩, ⟨below_step hW.1 hb, fun _ _ => hO2.at⟩⟩
          refine StepsI.cons rfl ?_ ?_
          · rintro L zA v9 ⟨zB, zS, qa0, qc0, rfl, rfl, hF, hW⟩ hL hm K hK
            cases sx
            · have hb7 : zB 7 = false := by simpa using hL
              have hb4 : zB 4 = true := by cases e : zB 4 with | false => (exfalso; revert hm; simp [metB, Region.binds, e]) | true => rfl
              have e4 : zS 130 = .bool false := hF.2.2.2.2.1 hb4
              clear hL hm
              simp only [puts, Act.put, List.setIfInBounds_toArray, List.set_cons_zero, List.set_cons_succ]
              simp only [e4]
              rw [if_neg (by exact Bool.false_ne_true)]
              exact hK.out _ _ ⟨fun zj => if zj = 4 then true else if zj = 7 then true else zB zj, fun zd => if zd = 133 then selV false (.agg #[.int .i64 zx, .slice aX lx.length cX]) undef else if zd = 130 then .bool false else zS zd, qa0, qc0, by simp [hb4], by kernel_rfl, ⟨hF.1, hF.2.1, hF.2.2.1, hF.2.2.2.1, fun _ => rfl, hF.2.2.2.2.2.1, hF.2.2.2.2.2.2.1, fun _ => rfl, hF.2.2.2.2.2.2.2.2.1, hF.2.2.2.2.2.2.2.2.2.1, hF.2.2.2.2.2.2.2.2.2.2⟩, hW⟩
            · have hb7 : zB 7 = false := by simpa using hL
              have hb4 : zB 4 = true := by cases e : zB 4 with | false => (exfalso; revert hm; simp [metB, Region.binds, e]) | true => rfl
              have e4 : zS 130 = .bool true := hF.2.2.2.2.1 hb4
              clear hL hm
              simp only [puts, Act.put, List.setIfInBounds_toArray, List.set_cons_zero, List.set_cons_succ]
              simp only [e4]
              obtain ⟨k0, k1⟩ := hX9 _ hW.1
              go_simp
              exact hK.out _ _ ⟨fun zj => if zj = 4 then true else if zj = 7 then true else zB zj, fun zd => if zd = 133 then selV true (.agg #[.int .i64 zx, .slice aX lx.length cX]) undef else if zd = 130 then .bool true else zS zd, qa0, qc0, by simp [hb4], by kernel_rfl, ⟨hF.1, hF.2.1, hF.2.2.1, hF.2.2.2.1, fun _ => rfl, hF.2.2.2.2.2.1, hF.2.2.2.2.2.2.1, fun _ => rfl, hF.2.2.2.2.2.2.2.2.1, hF.2.2.2.2.2.2.2.2.2.1, hF.2.2.2.2.2.2.2.2.2.2⟩, hW⟩
          refine StepsI.cons rfl ?_ ?_
          · rintro L zA v9 ⟨zB, zS, qa0, qc0, rfl, rfl, hF, hW⟩ hL hm K hK
            cases sx
            · have hb8 : zB 8 = false := by simpa using hL
              have hb4 : zB 4 = true := by cases e : zB 4 with | false => (exfalso; revert hm; simp [metB, Region.binds, e]) | true => rfl
              have e4 : zS 130 = .bool false := hF.2.2.2.2.1 hb4
              clear hL hm
              simp only [puts, Act.put, List.setIfInBounds_toArray, List.set_cons_zero, List.set_cons_succ]
              simp only [e4]
              rw [if_neg (by exact Bool.false_ne_true)]
              exact hK.out _ _ ⟨fun zj => if zj = 4 then true else if zj = 8 then true else zB zj, fun zd => if zd = 134 then selV false (.bool true) undef else if zd = 130 then .bool false else zS zd, qa0, qc0, by simp [hb4], by kernel_rfl, ⟨hF.1, hF.2.1, hF.2.2.1, hF.2.2.2.1, fun _ => rfl, hF.2.2.2.2.2.1, hF.2.2.2.2.2.2.1, hF.2.2.2.2.2.2.2.1, fun _ => rfl, hF.2.2.2.2.2.2.2.2.2.1, hF.2.2.2.2.2.2.2.2.2.2⟩, hW⟩
            · have hb8 : zB 8 = false := by simpa using hL
              have hb4 : zB 4 = true := by cases e : zB 4 with | false => (exfalso; revert hm; simp [metB, Region.binds, e]) | true => rfl
              have hb6 : zB 6 = true := by cases e : zB 6 with | false => (exfalso; revert hm; simp [metB, Region.binds, e]) | true => rfl
              have hb7 : zB 7 = true := by cases e : zB 7 with | false => (exfalso; revert hm; simp [metB, Region.binds, e]) | true => rfl
              have e4 : zS 130 = .bool true := hF.2.2.2.2.1 hb4
              have e6 : zS 132 = .agg #[.int .i64 zx, .slice qa0 lx.length qc0] := hF.2.2.2.2.2.2.1 hb6
              have e7 : zS 133 = .agg #[.int .i64 zx, .slice aX lx.length cX] := hF.2.2.2.2.2.2.2.1 hb7
              clear hL hm
              rw [hb6] at hW
              simp only [puts, Act.put, List.setIfInBounds_toArray, List.set_cons_zero, List.set_cons_succ]
              simp only [e4, e6, e7]
              go_simp
              refine (sameFacts_ok zx lx _ _ _ _ _ HLX.out (hW.2 (by first | rfl | trivial) rfl) (LX.out.below hW.1)).mono ?_
              rintro e v92 ⟨rfl, hb⟩
              go_wp2_with fail
              exact hK.out _ _ ⟨fun zj => if zj = 7 then true else if zj = 6 then true else if zj = 4 then true else if zj = 8 then true else zB zj, fun zd => if zd = 134 then selV true (.bool true) undef else if zd = 133 then selV true (.agg #[.int .i64 zx, .slice aX lx.length cX]) undef else if zd = 132 then selV true (.agg #[.int .i64 zx, .slice qa0 lx.length qc0]) undef else if zd = 130 then .bool true else zS zd, qa0, qc0, by simp [hb4, hb6, hb7], by kernel_rfl, ⟨hF.1, hF.2.1, hF.2.2.1, hF.2.2.2.1, fun _ => rfl, hF.2.2.2.2.2.1, fun _ => rfl, fun _ => rfl, fun _ => rfl, hF.2.2.2.2.2.2.2.2.2.1, hF.2.2.2.2.2.2.2.2.2.2⟩, ⟨below_step hW.1 hb, fun _ e => (hW.2 (by first | rfl | trivial) e).below hb⟩⟩
          refine StepsI.cons rfl ?_ ?_
          · rintro L zA v9 ⟨zB, zS, qa0, qc0, rfl, rfl, hF, hW⟩ hL hm K hK
            cases sx
            · have hb9 : zB 9 = false := by simpa using hL
              have hb4 : zB 4 = true := by cases e : zB 4 with | false => (exfalso; revert hm; simp [metB, Region.binds, e]) | true => rfl
              have e4 : zS 130 = .bool false := hF.2.2.2.2.1 hb4
              clear hL hm
              simp only [puts, Act.put, List.setIfInBounds_toArray, List.set_cons_zero, List.set_cons_succ]
              simp only [e4]
              rw [if_neg (by exact Bool.false_ne_true)]
              exact hK.out _ _ ⟨fun zj => if zj = 4 then true else if zj = 9 then true else zB zj, fun zd => if zd = 135 then selV false (.bool false) undef else if zd = 130 then .bool false else zS zd, qa0, qc0, by simp [hb4], by kernel_rfl, ⟨hF.1, hF.2.1, hF.2.2.1, hF.2.2.2.1, fun _ => rfl, hF.2.2.2.2.2.1, hF.2.2.2.2.2.2.1, hF.2.2.2.2.2.2.2.1, hF.2.2.2.2.2.2.2.2.1, fun _ => rfl, hF.2.2.2.2.2.2.2.2.2.2⟩, hW⟩
            · have hb9 : zB 9 = false := by simpa using hL
              have hb4 : zB 4 = true := by cases e : zB 4 with | false => (exfalso; revert hm; simp [metB, Region.binds, e]) | true => rfl
              have hb8 : zB 8 = true := by cases e : zB 8 with | false => (exfalso; revert hm; simp [metB, Region.binds, e]) | true => rfl
              have e4 : zS 130 = .bool true := hF.2.2.2.2.1 hb4
              have e8 : zS 134 = .bool true := hF.2.2.2.2.2.2.2.2.1 hb8
              clear hL hm
              simp only [puts, Act.put, List.setIfInBounds_toArray, List.set_cons_zero, List.set_cons_succ]
              simp only [e4, e8]
              go_simp
              exact hK.out _ _ ⟨fun zj => if zj = 8 then true else if zj = 4 then true else if zj = 9 then true else zB zj, fun zd => if zd = 135 then selV true (.bool false) undef else if zd = 134 then selV true (.bool true) undef else if zd = 130 then .bool true else zS zd, qa0, qc0, by simp [hb4, hb8], by kernel_rfl, ⟨hF.1, hF.2.1, hF.2.2.1, hF.2.2.2.1, fun _ => rfl, hF.2.2.2.2.2.1, hF.2.2.2.2.2.2.1, hF.2.2.2.2.2.2.2.1, fun _ => rfl, fun _ => rfl, hF.2.2.2.2.2.2.2.2.2.2⟩, hW⟩
          refine StepsI.cons rfl ?_ ?_
          · rintro L zA v9 ⟨zB, zS, qa0, qc0, rfl, rfl, hF, hW⟩ hL hm K hK
            cases sx
            · have hb10 : zB 10 = false := by simpa using hL
              have hb4 : zB 4 = true := by cases e : zB 4 with | false => (exfalso; revert hm; simp [metB, Region.binds, e]) | true => rfl
              have hb9 : zB 9 = true := by cases e : zB 9 with | false => (exfalso; revert hm; simp [metB, Region.binds, e]) | true => rfl
              have e4 : zS 130 = .bool false := hF.2.2.2.2.1 hb4
              have e9 : zS 135 = undef := hF.2.2.2.2.2.2.2.2.2.1 hb9
              clear hL hm
              simp only [puts, Act.put, List.setIfInBounds_toArray, List.set_cons_zero, List.set_cons_succ]
              simp only [e4, e9]
              go_simp
              exact hK.out _ _ ⟨fun zj => if zj = 9 then true else if zj = 4 then true else if zj = 10 then true else zB zj, fun zd => if zd = 136 then .bool false else if zd = 135 then selV false (.bool false) undef else if zd = 130 then .bool false else zS zd, qa0, qc0, by simp [hb4, hb9], by kernel_rfl, ⟨hF.1, hF.2.1, hF.2.2.1, hF.2.2.2.1, fun _ => rfl, hF.2.2.2.2.2.1, hF.2.2.2.2.2.2.1, hF.2.2.2.2.2.2.2.1, hF.2.2.2.2.2.2.2.2.1, fun _ => rfl, fun _ => rfl⟩, hW⟩
            · have hb10 : zB 10 = false := by simpa using hL
              have hb4 : zB 4 = true := by cases e : zB 4 with | false => (exfalso; revert hm; simp [metB, Region.binds, e]) | true => rfl
              have hb9 : zB 9 = true := by cases e : zB 9 with | false => (exfalso; revert hm; simp [metB, Region.binds, e]) | true => rfl
              have e4 : zS 130 = .bool true := hF.2.2.2.2.1 hb4
              have e9 : zS 135 = .bool false := hF.2.2.2.2.2.2.2.2.2.1 hb9
              clear hL hm
              simp only [puts, Act.put, List.setIfInBounds_toArray, List.set_cons_zero, List.set_cons_succ]
              simp only [e4, e9]
              go_simp
              exact hK.out _ _ ⟨fun zj => if zj = 9 then true else if zj = 4 then true else if zj = 10 then true else zB zj, fun zd => if zd = 136 then .bool false else if zd = 135 then selV true (.bool false) undef else if zd = 130 then .bool true else zS zd, qa0, qc0, by simp [hb4, hb9], by kernel_rfl, ⟨hF.1, hF.2.1, hF.2.2.1, hF.2.2.2.1, fun _ => rfl, hF.2.2.2.2.2.1, hF.2.2.2.2.2.2.1, hF.2.2.2.2.2.2.2.1, hF.2.2.2.2.2.2.2.2.1, fun _ => rfl, fun _ => rfl⟩, hW⟩
          exact StepsI.nil (by kernel_rfl)
        · rintro L zA v9 ⟨zB, zS, qa0, qc0, rfl, rfl, hF, hW⟩ hr
          have hu := all_up (by kernel_rfl) (N := 11) (by kernel_rfl) hr
          have hb0 : zB 0 = true := by simpa using hu 0 (by decide)
          have hb1 : zB 1 = true := by simpa using hu 1 (by decide)
          have hb2 : zB 2 = true := by simpa using hu 2 (by decide)
          have hb3 : zB 3 = true := by simpa using hu 3 (by decide)
          have hb4 : zB 4 = true := by simpa using hu 4 (by decide)
          have hb5 : zB 5 = true := by simpa using hu 5 (by decide)
          have hb6 : zB 6 = true := by simpa using hu 6 (by decide)
          have hb7 : zB 7 = true := by simpa using hu 7 (by decide)
          have hb8 : zB 8 = true := by simpa using hu 8 (by decide)
          have hb9 : zB 9 = true := by simpa using hu 9 (by decide)
          have hb10 : zB 10 = true := by simpa using hu 10 (by decide)
          have e0 : zS 126 = .pointer (some ⟨X, 1, none⟩) := hF.1 hb0
          have e1 : zS 127 = .slice aX lx.length cX := hF.2.1 hb1
          have e2 : zS 128 = .int .i64 (lx.length : Int) := hF.2.2.1 hb2
          have e3 : zS 129 = .bool sx := hF.2.2.2.1 hb3
          have e4 : zS 130 = .bool sx := hF.2.2.2.2.1 hb4
          have e10 : zS 136 = .bool false := hF.2.2.2.2.2.2.2.2.2.2 hb10
          rw [hb6] at hW
          clear hu hr hF
          simp only [puts, Act.put, List.setIfInBounds_toArray, List.set_cons_zero, List.set_cons_succ]
          simp only [e0, e1, e2, e3, e4, e10]
          clear e0 e1 e2 e3 e4 e10
          clear hb0 hb1 hb2 hb3 hb4 hb5 hb6 hb7 hb8 hb9 hb10
          have hb2 := hW.1
          have BE := mkHid (below_step BE.out hb2)
          have FA := mkHid (FA.out.below hb2)
          have FB := mkHid (FB.out.below hb2)
          have LA := mkHid (LA.out.below hb2)
          have LB := mkHid (LB.out.below hb2)
          have FX := mkHid (FX.out.below hb2)
          have LX := mkHid (LX.out.below hb2)
          clear hb2 hW hA9 hB9 hX9 C12
          cases hB1 : leqF q l q l'
          · have hA9 : ∀ v', Below v9.heap.size v9 v' → v'.cell? ⟨A, 0, none⟩ = some (.int .i64 (q : Int)) ∧ v'.cell? ⟨A, 1, none⟩ = some (.slice ao l.length cp) := fun v' h => FA.out.below h
            have hB9 : ∀ v', Below v9.heap.size v9 v' → v'.cell? ⟨A + 1, 0, none⟩ = some (.int .i64 (q : Int)) ∧ v'.cell? ⟨A + 1, 1, none⟩ = some (.slice ao' l'.length cp') := fun v' h => FB.out.below h
            have hX9 : ∀ v', Below v9.heap.size v9 v' → v'.cell? ⟨X, 0, none⟩ = some (.int .i64 zx) ∧ v'.cell? ⟨X, 1, none⟩ = some (.slice aX lx.length cX) := fun v' h => FX.out.below h
            have C34 : Hid (∀ v, IntsAt v ao l → IntsAt v ao' l' → Calls Try.prog 34 #[.agg #[.int .i64 q, .slice ao l.length cp], .agg #[.int .i64 q, .slice ao' l'.length cp']] v fun e w' => e = .returned (.bool false) ∧ Below v.heap.size v w') := mkHid fun v h1 h2 => by rw [← hB1]; exact sLeq_any q l ao cp q l' ao' cp' v h1 h2
            clear hB1
            go_wp2_with fail
            refine wp_region_inv2 (fun zA0 L zA v8 => ∃ (zB : Nat → Bool) (zS : Nat → Value), L = #[zB 0, zB 1, zB 2, zB 3, zB 4, zB 5, zB 6, zB 7, zB 8, zB 9, zB 10, zB 11, zB 12, zB 13, zB 14, zB 15, zB 16] ∧ zA = puts zA0 [(137, zS 137), (138, zS 138), (139, zS 139), (140, zS 140), (141, zS 141), (142, zS 142), (143, zS 143), (144, zS 144), (145, zS 145), (146, zS 146), (147, zS 147), (148, zS 148), (149, zS 149), (150, zS 150), (151, zS 151), (152, zS 152), (4, zS 4)] ∧ ((zB 0 = true → zS 137 = .agg #[.int .i64 (q : Int), .slice ao l.length cp]) ∧ (zB 1 = true → zS 138 = .agg #[.int .i64 (q : Int), .slice ao' l'.length cp']) ∧ (zB 2 = true → zS 139 = .bool false) ∧ (zB 3 = true → zS 140 = .bool true) ∧ (zB 4 = true → zS 141 = .bool true) ∧ (zB 5 = true → zS 142 = undef) ∧ (zB 6 = true → zS 143 = undef) ∧ (zB 7 = true → zS 144 = undef) ∧ (zB 8 = true → zS 145 = undef) ∧ (zB 9 = true → zS 146 = .bool true) ∧ (zB 10 = true → zS 147 = .bool true) ∧ (zB 11 = true → zS 148 = undef) ∧ (zB 12 = true → zS 149 = undef) ∧ (zB 13 = true → zS 150 = undef) ∧ (zB 14 = true → zS 151 = undef) ∧ (zB 15 = true → zS 152 = .bool true) ∧ (zB 16 = true → zS 4 = .bool true)) ∧ Below v9.heap.size v9 v8 ∧ True) (by kernel_rfl) ?_ ?_ ?_
            · exact ⟨fun _ => false, fun zd => if zd = 152 then u152 else if zd = 151 then u151 else if zd = 150 then u150 else if zd = 149 then u149 else if zd = 148 then u148 else if zd = 147 then u147 else if zd = 146 then u146 else if zd = 145 then u145 else if zd = 144 then u144 else if zd = 143 then u143 else if zd = 142 then u142 else if zd = 141 then u141 else if zd = 140 then u140 else if zd = 139 then u139 else if zd = 138 then u138 else if zd = 137 then u137 else if zd = 4 then .bool false else undef, rfl, by kernel_rfl, ⟨fun e => ft e, fun e => ft e, fun e => ft e, fun e => ft e, fun e => ft e, fun e => ft e, fun e => ft e, fun e => ft e, fun e => ft e, fun e => ft e, fun e => ft e, fun e => ft e, fun e => ft e, fun e => ft e, fun e => ft e, fun e => ft e, fun e => ft e⟩, ⟨(Below.refl _ _).drew, trivial⟩⟩
            · refine StepsI.cons rfl ?_ ?_
              · rintro L zA v8 ⟨zB, zS, rfl, rfl, hF, hW⟩ hL hm K hK
                have hb0 : zB 0 = false := by simpa using hL
                clear hL hm
                simp only [puts, Act.put, List.setIfInBounds_toArray, List.set_cons_zero, List.set_cons_succ]
                obtain ⟨k0, k1⟩ := hA9 _ hW.1
                go_simp
                exact hK.out _ _ ⟨fun zj => if zj = 0 then true else zB zj, fun zd => if zd = 137 then .agg #[.int .i64 (q : Int), .slice ao l.length cp] else zS zd, rfl, by kernel_rfl, ⟨fun _ => rfl, hF.2.1, hF.2.2.1, hF.2.2.2.1, hF.2.2.2.2.1, hF.2.2.2.2.2.1, hF.2.2.2.2.2.2.1, hF.2.2.2.2.2.2.2.1, hF.2.2.2.2.2.2.2.2.1, hF.2.2.2.2.2.2.2.2.2.1, hF.2.2.2.2.2.2.2.2.2.2.1, hF.2.2.2.2.2.2.2.2.2.2.2.1, hF.2.2.2.2.2.2.2.2.2.2.2.2.1, hF.2.2.2.2.2.2.2.2.2.2.2.2.2.1, hF.2.2.2.2.2.2.2.2.2.2.2.2.2.2.1, hF.2.2.2.2.2.2.2.2.2.2.2.2.2.2.2.1, hF.2.2.2.2.2.2.2.2.2.2.2.2.2.2.2.2⟩, hW⟩
              refine StepsI.cons rfl ?_ ?_
              · rintro L zA v8 ⟨zB, zS, rfl, rfl, hF, hW⟩ hL hm K hK
                have hb1 : zB 1 = false := by simpa using hL
                clear hL hm
                simp only [puts, Act.put, List.setIfInBounds_toArray, List.set_cons_zero, List.set_cons_succ]
                obtain ⟨k0, k1⟩ := hB9 _ hW.1
                go_simp
                exact hK.out _ _ ⟨fun zj => if zj = 1 then true else zB zj, fun zd => if zd = 138 then .agg #[.int .i64 (q : Int), .slice ao' l'.length cp'] else zS zd, rfl, by kernel_rfl, ⟨hF.1, fun _ => rfl, hF.2.2.1, hF.2.2.2.1, hF.2.2.2.2.1, hF.2.2.2.2.2.1, hF.2.2.2.2.2.2.1, hF.2.2.2.2.2.2.2.1, hF.2.2.2.2.2.2.2.2.1, hF.2.2.2.2.2.2.2.2.2.1, hF.2.2.2.2.2.2.2.2.2.2.1, hF.2.2.2.2.2.2.2.2.2.2.2.1, hF.2.2.2.2.2.2.2.2.2.2.2.2.1, hF.2.2.2.2.2.2.2.2.2.2.2.2.2.1, hF.2.2.2.2.2.2.2.2.2.2.2.2.2.2.1, hF.2.2.2.2.2.2.2.2.2.2.2.2.2.2.2.1, hF.2.2.2.2.2.2.2.2.2.2.2.2.2.2.2.2⟩, hW⟩
              refine StepsI.cons rfl ?_ ?_
              · rintro L zA v8 ⟨zB, zS, rfl, rfl, hF, hW⟩ hL hm K hK
                have hb2 : zB 2 = false := by simpa using hL
                have hb0 : zB 0 = true := by cases e : zB 0 with | false => (exfalso; revert hm; simp [metB, Region.binds, e]) | true => rfl
                have hb1 : zB 1 = true := by cases e : zB 1 with | false => (exfalso; revert hm; simp [metB, Region.binds, e]) | true => rfl
                have e0 : zS 137 = .agg #[.int .i64 (q : Int), .slice ao l.length cp] := hF.1 hb0
                have e1 : zS 138 = .agg #[.int .i64 (q : Int), .slice ao' l'.length cp'] := hF.2.1 hb1
                clear hL hm
                simp only [puts, Act.put, List.setIfInBounds_toArray, List.set_cons_zero, List.set_cons_succ]
                simp only [e0, e1]
                go_simp
                refine (C34.out _ (LA.out.below hW.1) (LB.out.below hW.1)).mono ?_
                rintro e v82 ⟨rfl, hb⟩
                go_wp2_with fail
                exact hK.out _ _ ⟨fun zj => if zj = 1 then true else if zj = 0 then true else if zj = 2 then true else zB zj, fun zd => if zd = 139 then .bool false else if zd = 138 then .agg #[.int .i64 (q : Int), .slice ao' l'.length cp'] else if zd = 137 then .agg #[.int .i64 (q : Int), .slice ao l.length cp] else zS zd, by simp [hb0, hb1], by kernel_rfl, ⟨fun _ => rfl, fun _ => rfl, fun _ => rfl, hF.2.2.2.1, hF.2.2.2.2.1, hF.2.2.2.2.2.1, hF.2.2.2.2.2.2.1, hF.2.2.2.2.2.2.2.1, hF.2.2.2.2.2.2.2.2.1, hF.2.2.2.2.2.2.2.2.2.1, hF.2.2.2.2.2.2.2.2.2.2.1, hF.2.2.2.2.2.2.2.2.2.2.2.1, hF.2.2.2.2.2.2.2.2.2.2.2.2.1, hF.2.2.2.2.2.2.2.2.2.2.2.2.2.1, hF.2.2.2.2.2.2.2.2.2.2.2.2.2.2.1, hF.2.2.2.2.2.2.2.2.2.2.2.2.2.2.2.1, hF.2.2.2.2.2.2.2.2.2.2.2.2.2.2.2.2⟩, ⟨below_step hW.1 hb, trivial⟩⟩
              refine StepsI.cons rfl ?_ ?_
              · rintro L zA v8 ⟨zB, zS, rfl, rfl, hF, hW⟩ hL hm K hK
                have hb3 : zB 3 = false := by simpa using hL
                have hb2 : zB 2 = true := by cases e : zB 2 with | false => (exfalso; revert hm; simp [metB, Region.binds, e]) | true => rfl
                have e2 : zS 139 = .bool false := hF.2.2.1 hb2
                clear hL hm
                simp only [puts, Act.put, List.setIfInBounds_toArray, List.set_cons_zero, List.set_cons_succ]
                simp only [e2]
                go_simp
                exact hK.out _ _ ⟨fun zj => if zj = 2 then true else if zj = 3 then true else zB zj, fun zd => if zd = 140 then .bool true else if zd = 139 then .bool false else zS zd, by simp [hb2], by kernel_rfl, ⟨hF.1, hF.2.1, fun _ => rfl, fun _ => rfl, hF.2.2.2.2.1, hF.2.2.2.2.2.1, hF.2.2.2.2.2.2.1, hF.2.2.2.2.2.2.2.1, hF.2.2.2.2.2.2.2.2.1, hF.2.2.2.2.2.2.2.2.2.1, hF.2.2.2.2.2.2.2.2.2.2.1, hF.2.2.2.2.2.2.2.2.2.2.2.1, hF.2.2.2.2.2.2.2.2.2.2.2.2.1, hF.2.2.2.2.2.2.2.2.2.2.2.2.2.1, hF.2.2.2.2.2.2.2.2.2.2.2.2.2.2.1, hF.2.2.2.2.2.2.2.2.2.2.2.2.2.2.2.1, hF.2.2.2.2.2.2.2.2.2.2.2.2.2.2.2.2⟩, hW⟩
              refine StepsI.cons rfl ?_ ?_
              · rintro L zA v8 ⟨zB, zS, rfl, rfl, hF, hW⟩ hL hm K hK
                have hb4 : zB 4 = false := by simpa using hL
                have hb3 : zB 3 = true := by cases e : zB 3 with | false => (exfalso; revert hm; simp [metB, Region.binds, e]) | true => rfl
                have e3 : zS 140 = .bool true := hF.2.2.2.1 hb3
                clear hL hm
                simp only [puts, Act.put, List.setIfInBounds_toArray, List.set_cons_zero, List.set_cons_succ]
                simp only [e3]
                go_simp
                exact hK.out _ _ ⟨fun zj => if zj = 3 then true else if zj = 4 then true else zB zj, fun zd => if zd = 141 then .bool true else if zd = 140 then .bool true else zS zd, by simp [hb3], by kernel_rfl, ⟨hF.1, hF.2.1, hF.2.2.1, fun _ => rfl, fun _ => rfl, hF.2.2.2.2.2.1, hF.2.2.2.2.2.2.1, hF.2.2.2.2.2.2.2.1, hF.2.2.2.2.2.2.2.2.1, hF.2.2.2.2.2.2.2.2.2.1, hF.2.2.2.2.2.2.2.2.2.2.1, hF.2.2.2.2.2.2.2.2.2.2.2.1, hF.2.2.2.2.2.2.2.2.2.2.2.2.1, hF.2.2.2.2.2.2.2.2.2.2.2.2.2.1, hF.2.2.2.2.2.2.2.2.2.2.2.2.2.2.1, hF.2.2.2.2.2.2.2.2.2.2.2.2.2.2.2.1, hF.2.2.2.2.2.2.2.2.2.2.2.2.2.2.2.2⟩, hW⟩
              refine StepsI.cons rfl ?_ ?_
              · rintro L zA v8 ⟨zB, zS, rfl, rfl, hF, hW⟩ hL hm K hK
                have hb5 : zB 5 = false := by simpa using hL
                have hb4 : zB 4 = true := by cases e : zB 4 with | false => (exfalso; revert hm; simp [metB, Region.binds, e]) | true => rfl
                have e4 : zS 141 = .bool true := hF.2.2.2.2.1 hb4
                clear hL hm
                simp only [puts, Act.put, List.setIfInBounds_toArray, List.set_cons_zero, List.set_cons_succ]
                simp only [e4]
                rw [if_neg (by exact Bool.false_ne_true)]
                exact hK.out _ _ ⟨fun zj => if zj = 4 then true else if zj = 5 then true else zB zj, fun zd => if zd = 142 then undef else if zd = 141 then .bool true else zS zd, by simp [hb4], by kernel_rfl, ⟨hF.1, hF.2.1, hF.2.2.1, hF.2.2.2.1, fun _ => rfl, fun _ => rfl, hF.2.2.2.2.2.2.1, hF.2.2.2.2.2.2.2.1, hF.2.2.2.2.2.2.2.2.1, hF.2.2.2.2.2.2.2.2.2.1, hF.2.2.2.2.2.2.2.2.2.2.1, hF.2.2.2.2.2.2.2.2.2.2.2.1, hF.2.2.2.2.2.2.2.2.2.2.2.2.1, hF.2.2.2.2.2.2.2.2.2.2.2.2.2.1, hF.2.2.2.2.2.2.2.2.2.2.2.2.2.2.1, hF.2.2.2.2.2.2.2.2.2.2.2.2.2.2.2.1, hF.2.2.2.2.2.2.2.2.2.2.2.2.2.2.2.2⟩, hW⟩
              refine StepsI.cons rfl ?_ ?_
              · rintro L zA v8 ⟨zB, zS, rfl, rfl, hF, hW⟩ hL hm K hK
                have hb6 : zB 6 = false := by simpa using hL
                have hb4 : zB 4 = true := by cases e : zB 4 with | false => (exfalso; revert hm; simp [metB, Region.binds, e]) | true => rfl
                have e4 : zS 141 = .bool true := hF.2.2.2.2.1 hb4
                clear hL hm
                simp only [puts, Act.put, List.setIfInBounds_toArray, List.set_cons_zero, List.set_cons_succ]
                simp only [e4]
                rw [if_neg (by exact Bool.false_ne_true)]
                exact hK.out _ _ ⟨fun zj => if zj = 4 then true else if zj = 6 then true else zB zj, fun zd => if zd = 143 then undef else if zd = 141 then .bool true else zS zd, by simp [hb4], by kernel_rfl, ⟨hF.1, hF.2.1, hF.2.2.1, hF.2.2.2.1, fun _ => rfl, hF.2.2.2.2.2.1, fun _ => rfl, hF.2.2.2.2.2.2.2.1, hF.2.2.2.2.2.2.2.2.1, hF.2.2.2.2.2.2.2.2.2.1, hF.2.2.2.2.2.2.2.2.2.2.1, hF.2.2.2.2.2.2.2.2.2.2.2.1, hF.2.2.2.2.2.2.2.2.2.2.2.2.1, hF.2.2.2.2.2.2.2.2.2.2.2.2.2.1, hF.2.2.2.2.2.2.2.2.2.2.2.2.2.2.1, hF.2.2.2.2.2.2.2.2.2.2.2.2.2.2.2.1, hF.2.2.2.2.2.2.2.2.2.2.2.2.2.2.2.2⟩, hW⟩
              refine StepsI.cons rfl ?_ ?_
              · rintro L zA v8 ⟨zB, zS, rfl, rfl, hF, hW⟩ hL hm K hK
                have hb7 : zB 7 = false := by simpa using hL
                have hb4 : zB 4 = true := by cases e : zB 4 with | false => (exfalso; revert hm; simp [metB, Region.binds, e]) | true => rfl
                have e4 : zS 141 = .bool true := hF.2.2.2.2.1 hb4
                clear hL hm
                simp only [puts, Act.put, List.setIfInBounds_toArray, List.set_cons_zero, List.set_cons_succ]
                simp only [e4]
                rw [if_neg (by exact Bool.false_ne_true)]
                exact hK.out _ _ ⟨fun zj => if zj = 4 then true else if zj = 7 then true else zB zj, fun zd => if zd = 144 then undef else if zd = 141 then .bool true else zS zd, by simp [hb4], by kernel_rfl, ⟨hF.1, hF.2.1, hF.2.2.1, hF.2.2.2.1, fun _ => rfl, hF.2.2.2.2.2.1, hF.2.2.2.2.2.2.1, fun _ => rfl, hF.2.2.2.2.2.2.2.2.1, hF.2.2.2.2.2.2.2.2.2.1, hF.2.2.2.2.2.2.2.2.2.2.1, hF.2.2.2.2.2.2.2.2.2.2.2.1, hF.2.2.2.2.2.2.2.2.2.2.2.2.1, hF.2.2.2.2.2.2.2.2.2.2.2.2.2.1, hF.2.2.2.2.2.2.2.2.2.2.2.2.2.2.1, hF.2.2.2.2.2.2.2.2.2.2.2.2.2.2.2.1, hF.2.2.2.2.2.2.2.2.2.2.2.2.2.2.2.2⟩, hW⟩
              refine StepsI.cons rfl ?_ ?_
              · rintro L zA v8 ⟨zB, zS, rfl, rfl, hF, hW⟩ hL hm K hK
                have hb8 : zB 8 = false := by simpa using hL
                have hb4 : zB 4 = true := by cases e : zB 4 with | false => (exfalso; revert hm; simp [metB, Region.binds, e]) | true => rfl
                have e4 : zS 141 = .bool true := hF.2.2.2.2.1 hb4
                clear hL hm
                simp only [puts, Act.put, List.setIfInBounds_toArray, List.set_cons_zero, List.set_cons_succ]
                simp only [e4]
                rw [if_neg (by exact Bool.false_ne_true)]
                exact hK.out _ _ ⟨fun zj => if zj = 4 then true else if zj = 8 then true else zB zj, fun zd => if zd = 145 then undef else if zd = 141 then .bool true else zS zd, by simp [hb4], by kernel_rfl, ⟨hF.1, hF.2.1, hF.2.2.1, hF.2.2.2.1, fun _ => rfl, hF.2.2.2.2.2.1, hF.2.2.2.2.2.2.1, hF.2.2.2.2.2.2.2.1, fun _ => rfl, hF.2.2.2.2.2.2.2.2.2.1, hF.2.2.2.2.2.2.2.2.2.2.1, hF.2.2.2.2.2.2.2.2.2.2.2.1, hF.2.2.2.2.2.2.2.2.2.2.2.2.1, hF.2.2.2.2.2.2.2.2.2.2.2.2.2.1, hF.2.2.2.2.2.2.2.2.2.2.2.2.2.2.1, hF.2.2.2.2.2.2.2.2.2.2.2.2.2.2.2.1, hF.2.2.2.2.2.2.2.2.2.2.2.2.2.2.2.2⟩, hW⟩
              refine StepsI.cons rfl ?_ ?_
              · rintro L zA v8 ⟨zB, zS, rfl, rfl, hF, hW⟩ hL hm K hK
                have hb9 : zB 9 = false := by simpa using hL
                have hb4 : zB 4 = true := by cases e : zB 4 with | false => (exfalso; revert hm; simp [metB, Region.binds, e]) | true => rfl
                have hb8 : zB 8 = true := by cases e : zB 8 with | false => (exfalso; revert hm; simp [metB, Region.binds, e]) | true => rfl
                have e4 : zS 141 = .bool true := hF.2.2.2.2.1 hb4
                have e8 : zS 145 = undef := hF.2.2.2.2.2.2.2.2.1 hb8
                clear hL hm
                simp only [puts, Act.put, List.setIfInBounds_toArray, List.set_cons_zero, List.set_cons_succ]
                simp only [e4, e8]
                go_simp
                exact hK.out _ _ ⟨fun zj => if zj = 8 then true else if zj = 4 then true else if zj = 9 then true else zB zj, fun zd => if zd = 146 then .bool true else if zd = 145 then undef else if zd = 141 then .bool true else zS zd, by simp [hb4, hb8], by kernel_rfl, ⟨hF.1, hF.2.1, hF.2.2.1, hF.2.2.2.1, fun _ => rfl, hF.2.2.2.2.2.1, hF.2.2.2.2.2.2.1, hF.2.2.2.2.2.2.2.1, fun _ => rfl, fun _ => rfl, hF.2.2.2.2.2.2.2.2.2.2.1, hF.2.2.2.2.2.2.2.2.2.2.2.1, hF.2.2.2.2.2.2.2.2.2.2.2.2.1, hF.2.2.2.2.2.2.2.2.2.2.2.2.2.1, hF.2.2.2.2.2.2.2.2.2.2.2.2.2.2.1, hF.2.2.2.2.2.2.2.2.2.2.2.2.2.2.2.1, hF.2.2.2.2.2.2.2.2.2.2.2.2.2.2.2.2⟩, hW⟩
              refine StepsI.cons rfl ?_ ?_
              · rintro L zA v8 ⟨zB, zS, rfl, rfl, hF, hW⟩ hL hm K hK
                have hb10 : zB 10 = false := by simpa using hL
                have hb9 : zB 9 = true := by cases e : zB 9 with | false => (exfalso; revert hm; simp [metB, Region.binds, e]) | true => rfl
                have e9 : zS 146 = .bool true := hF.2.2.2.2.2.2.2.2.2.1 hb9
                clear hL hm
                simp only [puts, Act.put, List.setIfInBounds_toArray, List.set_cons_zero, List.set_cons_succ]
                simp only [e9]
                go_simp
                exact hK.out _ _ ⟨fun zj => if zj = 9 then true else if zj = 10 then true else zB zj, fun zd => if zd = 147 then .bool true else if zd = 146 then .bool true else zS zd, by simp [hb9], by kernel_rfl, ⟨hF.1, hF.2.1, hF.2.2.1, hF.2.2.2.1, hF.2.2.2.2.1, hF.2.2.2.2.2.1, hF.2.2.2.2.2.2.1, hF.2.2.2.2.2.2.2.1, hF.2.2.2.2.2.2.2.2.1, fun _ => rfl, fun _ => rfl, hF.2.2.2.2.2.2.2.2.2.2.2.1, hF.2.2.2.2.2.2.2.2.2.2.2.2.1, hF.2.2.2.2.2.2.2.2.2.2.2.2.2.1, hF.2.2.2.2.2.2.2.2.2.2.2.2.2.2.1, hF.2.2.2.2.2.2.2.2.2.2.2.2.2.2.2.1, hF.2.2.2.2.2.2.2.2.2.2.2.2.2.2.2.2⟩, hW⟩
              refine StepsI.cons rfl ?_ ?_
              · rintro L zA v8 ⟨zB, zS, rfl, rfl, hF, hW⟩ hL hm K hK
                have hb11 : zB 11 = false := by simpa using hL
                have hb10 : zB 10 = true := by cases e : zB 10 with | false => (exfalso; revert hm; simp [metB, Region.binds, e]) | true => rfl
                have e10 : zS 147 = .bool true := hF.2.2.2.2.2.2.2.2.2.2.1 hb10
                clear hL hm
                simp only [puts, Act.put, List.setIfInBounds_toArray, List.set_cons_zero, List.set_cons_succ]
                simp only [e10]
                rw [if_neg (by exact Bool.false_ne_true)]
                exact hK.out _ _ ⟨fun zj => if zj = 10 then true else if zj = 11 then true else zB zj, fun zd => if zd = 148 then undef else if zd = 147 then .bool true else zS zd, by simp [hb10], by kernel_rfl, ⟨hF.1, hF.2.1, hF.2.2.1, hF.2.2.2.1, hF.2.2.2.2.1, hF.2.2.2.2.2.1, hF.2.2.2.2.2.2.1, hF.2.2.2.2.2.2.2.1, hF.2.2.2.2.2.2.2.2.1, hF.2.2.2.2.2.2.2.2.2.1, fun _ => rfl, fun _ => rfl, hF.2.2.2.2.2.2.2.2.2.2.2.2.1, hF.2.2.2.2.2.2.2.2.2.2.2.2.2.1, hF.2.2.2.2.2.2.2.2.2.2.2.2.2.2.1, hF.2.2.2.2.2.2.2.2.2.2.2.2.2.2.2.1, hF.2.2.2.2.2.2.2.2.2.2.2.2.2.2.2.2⟩, hW⟩
              refine StepsI.cons rfl ?_ ?_
              · rintro L zA v8 ⟨zB, zS, rfl, rfl, hF, hW⟩ hL hm K hK
                have hb12 : zB 12 = false := by simpa using hL
                have hb10 : zB 10 = true := by cases e : zB 10 with | false => (exfalso; revert hm; simp [metB, Region.binds, e]) | true => rfl
                have e10 : zS 147 = .bool true := hF.2.2.2.2.2.2.2.2.2.2.1 hb10
                clear hL hm
                simp only [puts, Act.put, List.setIfInBounds_toArray, List.set_cons_zero, List.set_cons_succ]
                simp only [e10]
                rw [if_neg (by exact Bool.false_ne_true)]
                exact hK.out _ _ ⟨fun zj => if zj = 10 then true else if zj = 12 then true else zB zj, fun zd => if zd = 149 then undef else if zd = 147 then .bool true else zS zd, by simp [hb10], by kernel_rfl, ⟨hF.1, hF.2.1, hF.2.2.1, hF.2.2.2.1, hF.2.2.2.2.1, hF.2.2.2.2.2.1, hF.2.2.2.2.2.2.1, hF.2.2.2.2.2.2.2.1, hF.2.2.2.2.2.2.2.2.1, hF.2.2.2.2.2.2.2.2.2.1, fun _ => rfl, hF.2.2.2.2.2.2.2.2.2.2.2.1, fun _ => rfl, hF.2.2.2.2.2.2.2.2.2.2.2.2.2.1, hF.2.2.2.2.2.2.2.2.2.2.2.2.2.2.1, hF.2.2.2.2.2.2.2.2.2.2.2.2.2.2.2.1, hF.2.2.2.2.2.2.2.2.2.2.2.2.2.2.2.2⟩, hW⟩
              refine StepsI.cons rfl ?_ ?_
              · rintro L zA v8 ⟨zB, zS, rfl, rfl, hF, hW⟩ hL hm K hK
                have hb13 : zB 13 = false := by simpa using hL
                have hb10 : zB 10 = true := by cases e : zB 10 with | false => (exfalso; revert hm; simp [metB, Region.binds, e]) | true => rfl
                have e10 : zS 147 = .bool true := hF.2.2.2.2.2.2.2.2.2.2.1 hb10
                clear hL hm
                simp only [puts, Act.put, List.setIfInBounds_toArray, List.set_cons_zero, List.set_cons_succ]
                simp only [e10]
                rw [if_neg (by exact Bool.false_ne_true)]
                exact hK.out _ _ ⟨fun zj => if zj = 10 then true else if zj = 13 then true else zB zj, fun zd => if zd = 150 then undef else if zd = 147 then .bool true else zS zd, by simp [hb10], by kernel_rfl, ⟨hF.1, hF.2.1, hF.2.2.1, hF.2.2.2.1, hF.2.2.2.2.1, hF.2.2.2.2.2.1, hF.2.2.2.2.2.2.1, hF.2.2.2.2.2.2.2.1, hF.2.2.2.2.2.2.2.2.1, hF.2.2.2.2.2.2.2.2.2.1, fun _ => rfl, hF.2.2.2.2.2.2.2.2.2.2.2.1, hF.2.2.2.2.2.2.2.2.2.2.2.2.1, fun _ => rfl, hF.2.2.2.2.2.2.2.2.2.2.2.2.2.2.1, hF.2.2.2.2.2.2.2.2.2.2.2.2.2.2.2.1, hF.2.2.2.2.2.2.2.2.2.2.2.2.2.2.2.2⟩, hW⟩
              refine StepsI.cons rfl ?_ ?_
              · rintro L zA v8 ⟨zB, zS, rfl, rfl, hF, hW⟩ hL hm K hK
                have hb14 : zB 14 = false := by simpa using hL
                have hb10 : zB 10 = true := by cases e : zB 10 with | false => (exfalso; revert hm; simp [metB, Region.binds, e]) | true => rfl
                have e10 : zS 147 = .bool true := hF.2.2.2.2.2.2.2.2.2.2.1 hb10
                clear hL hm
                simp only [puts, Act.put, List.setIfInBounds_toArray, List.set_cons_zero, List.set_cons_succ]
                simp only [e10]
                rw [if_neg (by exact Bool.false_ne_true)]
                exact hK.out _ _ ⟨fun zj => if zj = 10 then true else if zj = 14 then true else zB zj, fun zd => if zd = 151 then undef else if zd = 147 then .bool true else zS zd, by simp [hb10], by kernel_rfl, ⟨hF.1, hF.2.1, hF.2.2.1, hF.2.2.2.1, hF.2.2.2.2.1, hF.2.2.2.2.2.1, hF.2.2.2.2.2.2.1, hF.2.2.2.2.2.2.2.1, hF.2.2.2.2.2.2.2.2.1, hF.2.2.2.2.2.2.2.2.2.1, fun _ => rfl, hF.2.2.2.2.2.2.2.2.2.2.2.1, hF.2.2.2.2.2.2.2.2.2.2.2.2.1, hF.2.2.2.2.2.2.2.2.2.2.2.2.2.1, fun _ => rfl, hF.2.2.2.2.2.2.2.2.2.2.2.2.2.2.2.1, hF.2.2.2.2.2.2.2.2.2.2.2.2.2.2.2.2⟩, hW⟩
              refine StepsI.cons rfl ?_ ?_
              · rintro L zA v8 ⟨zB, zS, rfl, rfl, hF, hW⟩ hL hm K hK
                have hb15 : zB 15 = false := by simpa using hL
                have hb10 : zB 10 = true := by cases e : zB 10 with | false => (exfalso; revert hm; simp [metB, Region.binds, e]) | true => rfl
                have hb14 : zB 14 = true := by cases e : zB 14 with | false => (exfalso; revert hm; simp [metB, Region.binds, e]) | true => rfl
                have e10 : zS 147 = .bool true := hF.2.2.2.2.2.2.2.2.2.2.1 hb10
                have e14 : zS 151 = undef := hF.2.2.2.2.2.2.2.2.2.2.2.2.2.2.1 hb14
                clear hL hm
                simp only [puts, Act.put, List.setIfInBounds_toArray, List.set_cons_zero, List.set_cons_succ]
                simp only [e10, e14]
                go_simp
                exact hK.out _ _ ⟨fun zj => if zj = 14 then true else if zj = 10 then true else if zj = 15 then true else zB zj, fun zd => if zd = 152 then .bool true else if zd = 151 then undef else if zd = 147 then .bool true else zS zd, by simp [hb10, hb14], by kernel_rfl, ⟨hF.1, hF.2.1, hF.2.2.1, hF.2.2.2.1, hF.2.2.2.2.1, hF.2.2.2.2.2.1, hF.2.2.2.2.2.2.1, hF.2.2.2.2.2.2.2.1, hF.2.2.2.2.2.2.2.2.1, hF.2.2.2.2.2.2.2.2.2.1, fun _ => rfl, hF.2.2.2.2.2.2.2.2.2.2.2.1, hF.2.2.2.2.2.2.2.2.2.2.2.2.1, hF.2.2.2.2.2.2.2.2.2.2.2.2.2.1, fun _ => rfl, fun _ => rfl, hF.2.2.2.2.2.2.2.2.2.2.2.2.2.2.2.2⟩, hW⟩
              refine StepsI.cons rfl ?_ ?_
              · rintro L zA v8 ⟨zB, zS, rfl, rfl, hF, hW⟩ hL hm K hK
                have hb16 : zB 16 = false := by simpa using hL
                have hb15 : zB 15 = true := by cases e : zB 15 with | false => (exfalso; revert hm; simp [metB, Region.binds, e]) | true => rfl
                have e15 : zS 152 = .bool true := hF.2.2.2.2.2.2.2.2.2.2.2.2.2.2.2.1 hb15
                clear hL hm
                simp only [puts, Act.put, List.setIfInBounds_toArray, List.set_cons_zero, List.set_cons_succ]
                simp only [e15]
                go_simp
                exact hK.out _ _ ⟨fun zj => if zj = 15 then true else if zj = 16 then true else zB zj, fun zd => if zd = 4 then .bool true else if zd = 152 then .bool true else zS zd, by simp [hb15], by kernel_rfl, ⟨hF.1, hF.2.1, hF.2.2.1, hF.2.2.2.1, hF.2.2.2.2.1, hF.2.2.2.2.2.1, hF.2.2.2.2.2.2.1, hF.2.2.2.2.2.2.2.1, hF.2.2.2.2.2.2.2.2.1, hF.2.2.2.2.2.2.2.2.2.1, hF.2.2.2.2.2.2.2.2.2.2.1, hF.2.2.2.2.2.2.2.2.2.2.2.1, hF.2.2.2.2.2.2.2.2.2.2.2.2.1, hF.2.2.2.2.2.2.2.2.2.2.2.2.2.1, hF.2.2.2.2.2.2.2.2.2.2.2.2.2.2.1, fun _ => rfl, fun _ => rfl⟩, hW⟩
              exact StepsI.nil (by kernel_rfl)
            · rintro L zA v8 ⟨zB, zS, rfl, rfl, hF, hW⟩ hr
              have hu := all_up (by kernel_rfl) (N := 17) (by kernel_rfl) hr
              have hb0 : zB 0 = true := by simpa using hu 0 (by decide)
              have hb1 : zB 1 = true := by simpa using hu 1 (by decide)
              have hb2 : zB 2 = true := by simpa using hu 2 (by decide)
              have hb3 : zB 3 = true := by simpa using hu 3 (by decide)
              have hb4 : zB 4 = true := by simpa using hu 4 (by decide)
              have hb5 : zB 5 = true := by simpa using hu 5 (by decide)
              have hb6 : zB 6 = true := by simpa using hu 6 (by decide)
              have hb7 : zB 7 = true := by simpa using hu 7 (by decide)
              have hb8 : zB 8 = true := by simpa using hu 8 (by decide)
              have hb9 : zB 9 = true := by simpa using hu 9 (by decide)
              have hb10 : zB 10 = true := by simpa using hu 10 (by decide)
              have hb11 : zB 11 = true := by simpa using hu 11 (by decide)
              have hb12 : zB 12 = true := by simpa using hu 12 (by decide)
              have hb13 : zB 13 = true := by simpa using hu 13 (by decide)
              have hb14 : zB 14 = true := by simpa using hu 14 (by decide)
              have hb15 : zB 15 = true := by simpa using hu 15 (by decide)
              have hb16 : zB 16 = true := by simpa using hu 16 (by decide)
              have e0 : zS 137 = .agg #[.int .i64 (q : Int), .slice ao l.length cp] := hF.1 hb0
              have e1 : zS 138 = .agg #[.int .i64 (q : Int), .slice ao' l'.length cp'] := hF.2.1 hb1
              have e2 : zS 139 = .bool false := hF.2.2.1 hb2
              have e3 : zS 140 = .bool true := hF.2.2.2.1 hb3
              have e4 : zS 141 = .bool true := hF.2.2.2.2.1 hb4
              have e5 : zS 142 = undef := hF.2.2.2.2.2.1 hb5
              have e6 : zS 143 = undef := hF.2.2.2.2.2.2.1 hb6
              have e7 : zS 144 = undef := hF.2.2.2.2.2.2.2.1 hb7
              have e8 : zS 145 = undef := hF.2.2.2.2.2.2.2.2.1 hb8
              have e9 : zS 146 = .bool true := hF.2.2.2.2.2.2.2.2.2.1 hb9
              have e10 : zS 147 = .bool true := hF.2.2.2.2.2.2.2.2.2.2.1 hb10
              have e11 : zS 148 = undef := hF.2.2.2.2.2.2.2.2.2.2.2.1 hb11
              have e12 : zS 149 = undef := hF.2.2.2.2.2.2.2.2.2.2.2.2.1 hb12
              have e13 : zS 150 = undef := hF.2.2.2.2.2.2.2.2.2.2.2.2.2.1 hb13
              have e14 : zS 151 = undef := hF.2.2.2.2.2.2.2.2.2.2.2.2.2.2.1 hb14
              have e15 : zS 152 = .bool true := hF.2.2.2.2.2.2.2.2.2.2.2.2.2.2.2.1 hb15
              have e16 : zS 4 = .bool true := hF.2.2.2.2.2.2.2.2.2.2.2.2.2.2.2.2 hb16
              clear hu hr hF
              simp only [puts, Act.put, List.setIfInBounds_toArray, List.set_cons_zero, List.set_cons_succ]
              simp only [e0, e1, e2, e3, e4, e5, e6, e7, e8, e9, e10, e11, e12, e13, e14, e15, e16]
              clear e0 e1 e2 e3 e4 e5 e6 e7 e8 e9 e10 e11 e12 e13 e14 e15 e16
              clear hb0 hb1 hb2 hb3 hb4 hb5 hb6 hb7 hb8 hb9 hb10 hb11 hb12 hb13 hb14 hb15 hb16
              clear zB zS
              have hb2 := hW.1
              have BE := mkHid (below_step BE.out hb2)
              clear hb2 hW
              go_wp2
              go_ret
              exact ⟨by first | rfl | (simp; done), BE.out⟩
          · cases hB2 : leqF q l' q l
            · have hA9 : ∀ v', Below v9.heap.size v9 v' → v'.cell? ⟨A, 0, none⟩ = some (.int .i64 (q : Int)) ∧ v'.cell? ⟨A, 1, none⟩ = some (.slice ao l.length cp) := fun v' h => FA.out.below h
              have hB9 : ∀ v', Below v9.heap.size v9 v' → v'.cell? ⟨A + 1, 0, none⟩ = some (.int .i64 (q : Int)) ∧ v'.cell? ⟨A + 1, 1, none⟩ = some (.slice ao' l'.length cp') := fun v' h => FB.out.below h
              have hX9 : ∀ v', Below v9.heap.size v9 v' → v'.cell? ⟨X, 0, none⟩ = some (.int .i64 zx) ∧ v'.cell? ⟨X, 1, none⟩ = some (.slice aX lx.length cX) := fun v' h => FX.out.below h
              have C34 : Hid (∀ v, IntsAt v ao l → IntsAt v ao' l' → Calls Try.prog 34 #[.agg #[.int .i64 q, .slice ao l.length cp], .agg #[.int .i64 q, .slice ao' l'.length cp']] v fun e w' => e = .returned (.bool true) ∧ Below v.heap.size v w') := mkHid fun v h1 h2 => by rw [← hB1]; exact sLeq_any q l ao cp q l' ao' cp' v h1 h2
              have C35 : Hid (∀ v, IntsAt v ao l → IntsAt v ao' l' → Calls Try.prog 34 #[.agg #[.int .i64 q, .slice ao' l'.length cp'], .agg #[.int .i64 q, .slice ao l.length cp]] v fun e w' => e = .returned (.bool false) ∧ Below v.heap.size v w') := mkHid fun v h1 h2 => by rw [← hB2]; exact sLeq_any q l' ao' cp' q l ao cp v h2 h1
              clear hB1 hB2
              go_wp2_with fail
              refine wp_region_inv2 (fun zA0 L zA v8 => ∃ (zB : Nat → Bool) (zS : Nat → Value), L = #[zB 0, zB 1, zB 2, zB 3, zB 4, zB 5, zB 6, zB 7, zB 8, zB 9, zB 10, zB 11, zB 12, zB 13, zB 14, zB 15, zB 16] ∧ zA = puts zA0 [(137, zS 137), (138, zS 138), (139, zS 139), (140, zS 140), (141, zS 141), (142, zS 142), (143, zS 143), (144, zS 144), (145, zS 145), (146, zS 146), (147, zS 147), (148, zS 148), (149, zS 149), (150, zS 150), (151, zS 151), (152, zS 152), (4, zS 4)] ∧ ((zB 0 = true → zS 137 = .agg #[.int .i64 (q : Int), .slice ao l.length cp]) ∧ (zB 1 = true → zS 138 = .agg #[.int .i64 (q : Int), .slice ao' l'.length cp']) ∧ (zB 2 = true → zS 139 = .bool true) ∧ (zB 3 = true → zS 140 = .bool false) ∧ (zB 4 = true → zS 141 = .bool false) ∧ (zB 5 = true → zS 142 = .agg #[.int .i64 (q : Int), .slice ao' l'.length cp']) ∧ (zB 6 = true → zS 143 = .agg #[.int .i64 (q : Int), .slice ao l.length cp]) ∧ (zB 7 = true → zS 144 = .bool false) ∧ (zB 8 = true → zS 145 = .bool true) ∧ (zB 9 = true → zS 146 = .bool true) ∧ (zB 10 = true → zS 147 = .bool true) ∧ (zB 11 = true → zS 148 = undef) ∧ (zB 12 = true → zS 149 = undef) ∧ (zB 13 = true → zS 150 = undef) ∧ (zB 14 = true → zS 151 = undef) ∧ (zB 15 = true → zS 152 = .bool true) ∧ (zB 16 = true → zS 4 = .bool true)) ∧ Below v9.heap.size v9 v8 ∧ True) (by kernel_rfl) ?_ ?_ ?_
              · exact ⟨fun _ => false, fun zd => if zd = 152 then u152 else if zd = 151 then u151 else if zd = 150 then u150 else if zd = 149 then u149 else if zd = 148 then u148 else if zd = 147 then u147 else if zd = 146 then u146 else if zd = 145 then u145 else if zd = 144 then u144 else if zd = 143 then u143 else if zd = 142 then u142 else if zd = 141 then u141 else if zd = 140 then u140 else if zd = 139 then u139 else if zd = 138 then u138 else if zd = 137 then u137 else if zd = 4 then .bool false else undef, rfl, by kernel_rfl, ⟨fun e => ft e, fun e => ft e, fun e => ft e, fun e => ft e, fun e => ft e, fun e => ft e, fun e => ft e, fun e => ft e, fun e => ft e, fun e => ft e, fun e => ft e, fun e => ft e, fun e => ft e, fun e => ft e, fun e => ft e, fun e => ft e, fun e => ft e⟩, ⟨(Below.refl _ _).drew, trivial⟩⟩
              · refine StepsI.cons rfl ?_ ?_
                · rintro L zA v8 ⟨zB, zS, rfl, rfl, hF, hW⟩ hL hm K hK
                  have hb0 : zB 0 = false := by simpa using hL
                  clear hL hm
                  simp only [puts, Act.put, List.setIfInBounds_toArray, List.set_cons_zero, List.set_cons_succ]
                  obtain ⟨k0, k1⟩ := hA9 _ hW.1
                  go_simp
                  exact hK.out _ _ ⟨fun zj => if zj = 0 then true else zB zj, fun zd => if zd = 137 then .agg #[.int .i64 (q : Int), .slice ao l.length cp] else zS zd, rfl, by kernel_rfl, ⟨fun _ => rfl, hF.2.1, hF.2.2.1, hF.2.2.2.1, hF.2.2.2.2.1, hF.2.2.2.2.2.1, hF.2.2.2.2.2.2.1, hF.2.2.2.2.2.2.2.1, hF.2.2.2.2.2.2.2.2.1, hF.2.2.2.2.2.2.2.2.2.1, hF.2.2.2.2.2.2.2.2.2.2.1, hF.2.2.2.2.2.2.2.2.2.2.2.1, hF.2.2.2.2.2.2.2.2.2.2.2.2.1, hF.2.2.2.2.2.2.2.2.2.2.2.2.2.1, hF.2.2.2.2.2.2.2.2.2.2.2.2.2.2.1, hF.2.2.2.2.2.2.2.2.2.2.2.2.2.2.2.1, hF.2.2.2.2.2.2.2.2.2.2.2.2.2.2.2.2⟩, hW⟩
                refine StepsI.cons rfl ?_ ?_
                · rintro L zA v8 ⟨zB, zS, rfl, rfl, hF, hW⟩ hL hm K hK
                  have hb1 : zB 1 = false := by simpa using hL
                  clear hL hm
                  simp only [puts, Act.put, List.setIfInBounds_toArray, List.set_cons_zero, List.set_cons_succ]
                  obtain ⟨k0, k1⟩ := hB9 _ hW.1
                  go_simp
                  exact hK.out _ _ ⟨fun zj => if zj = 1 then true else zB zj, fun zd => if zd = 138 then .agg #[.int .i64 (q : Int), .slice ao' l'.length cp'] else zS zd, rfl, by kernel_rfl, ⟨hF.1, fun _ => rfl, hF.2.2.1, hF.2.2.2.1, hF.2.2.2.2.1, hF.2.2.2.2.2.1, hF.2.2.2.2.2.2.1, hF.2.2.2.2.2.2.2.1, hF.2.2.2.2.2.2.2.2.1, hF.2.2.2.2.2.2.2.2.2.1, hF.2.2.2.2.2.2.2.2.2.2.1, hF.2.2.2.2.2.2.2.2.2.2.2.1, hF.2.2.2.2.2.2.2.2.2.2.2.2.1, hF.2.2.2.2.2.2.2.2.2.2.2.2.2.1, hF.2.2.2.2.2.2.2.2.2.2.2.2.2.2.1, hF.2.2.2.2.2.2.2.2.2.2.2.2.2.2.2.1, hF.2.2.2.2.2.2.2.2.2.2.2.2.2.2.2.2⟩, hW⟩
                refine StepsI.cons rfl ?_ ?_
                · rintro L zA v8 ⟨zB, zS, rfl, rfl, hF, hW⟩ hL hm K hK
                  have hb2 : zB 2 = false := by simpa using hL
                  have hb0 : zB 0 = true := by cases e : zB 0 with | false => (exfalso; revert hm; simp [metB, Region.binds, e]) | true => rfl
                  have hb1 : zB 1 = true := by cases e : zB 1 with | false => (exfalso; revert hm; simp [metB, Region.binds, e]) | true => rfl
                  have e0 : zS 137 = .agg #[.int .i64 (q : Int), .slice ao l.length cp] := hF.1 hb0
                  have e1 : zS 138 = .agg #[.int .i64 (q : Int), .slice ao' l'.length cp'] := hF.2.1 hb1
                  clear hL hm
                  simp only [puts, Act.put, List.setIfInBounds_toArray, List.set_cons_zero, List.set_cons_succ]
                  simp only [e0, e1]
                  go_simp
                  refine (C34.out _ (LA.out.below hW.1) (LB.out.below hW.1)).mono ?_
                  rintro e v82 ⟨rfl, hb⟩
                  go_wp2_with fail
                  exact hK.out _ _ ⟨fun zj => if zj = 1 then true else if zj = 0 then true else if zj = 2 then true else zB zj, fun zd => if zd = 139 then .bool true else if zd = 138 then .agg #[.int .i64 (q : Int), .slice ao' l'.length cp'] else if zd = 137 then .agg #[.int .i64 (q : Int), .slice ao l.length cp] else zS zd, by simp [hb0, hb1], by kernel_rfl, ⟨fun _ => rfl, fun _ => rfl, fun _ => rfl, hF.2.2.2.1, hF.2.2.2.2.1, hF.2.2.2.2.2.1, hF.2.2.2.2.2.2.1, hF.2.2.2.2.2.2.2.1, hF.2.2.2.2.2.2.2.2.1, hF.2.2.2.2.2.2.2.2.2.1, hF.2.2.2.2.2.2.2.2.2.2.1, hF.2.2.2.2.2.2.2.2.2.2.2.1, hF.2.2.2.2.2.2.2.2.2.2.2.2.1, hF.2.2.2.2.2.2.2.2.2.2.2.2.2.1, hF.2.2.2.2.2.2.2.2.2.2.2.2.2.2.1, hF.2.2.2.2.2.2.2.2.2.2.2.2.2.2.2.1, hF.2.2.2.2.2.2.2.2.2.2.2.2.2.2.2.2⟩, ⟨below_step hW.1 hb, trivial⟩⟩
                refine StepsI.cons rfl ?_ ?_
                · rintro L zA v8 ⟨zB, zS, rfl, rfl, hF, hW⟩ hL hm K hK
                  have hb3 : zB 3 = false := by simpa using hL
                  have hb2 : zB 2 = true := by cases e : zB 2 with | false => (exfalso; revert hm; simp [metB, Region.binds, e]) | true => rfl
                  have e2 : zS 139 = .bool true := hF.2.2.1 hb2
                  clear hL hm
                  simp only [puts, Act.put, List.setIfInBounds_toArray, List.set_cons_zero, List.set_cons_succ]
                  simp only [e2]
                  go_simp
                  exact hK.out _ _ ⟨fun zj => if zj = 2 then true else if zj = 3 then true else zB zj, fun zd => if zd = 140 then .bool false else if zd = 139 then .bool true else zS zd, by simp [hb2], by kernel_rfl, ⟨hF.1, hF.2.1, fun _ => rfl, fun _ => rfl, hF.2.2.2.2.1, hF.2.2.2.2.2.1, hF.2.2.2.2.2.2.1, hF.2.2.2.2.2.2.2.1, hF.2.2.2.2.2.2.2.2.1, hF.2.2.2.2.2.2.2.2.2.1, hF.2.2.2.2.2.2.2.2.2.2.1, hF.2.2.2.2.2.2.2.2.2.2.2.1, hF.2.2.2.2.2.2.2.2.2.2.2.2.1, hF.2.2.2.2.2.2.2.2.2.2.2.2.2.1, hF.2.2.2.2.2.2.2.2.2.2.2.2.2.2.1, hF.2.2.2.2.2.2.2.2.2.2.2.2.2.2.2.1, hF.2.2.2.2.2.2.2.2.2.2.2.2.2.2.2.2⟩, hW⟩
                refine StepsI.cons rfl ?_ ?_
                · rintro L zA v8 ⟨zB, zS, rfl, rfl, hF, hW⟩ hL hm K hK
                  have hb4 : zB 4 = false := by simpa using hL
                  have hb3 : zB 3 = true := by cases e : zB 3 with | false => (exfalso; revert hm; simp [metB, Region.binds, e]) | true => rfl
                  have e3 : zS 140 = .bool false := hF.2.2.2.1 hb3
                  clear hL hm
                  simp only [puts, Act.put, List.setIfInBounds_toArray, List.set_cons_zero, List.set_cons_succ]
                  simp only [e3]
                  go_simp
                  exact hK.out _ _ ⟨fun zj => if zj = 3 then true else if zj = 4 then true else zB zj, fun zd => if zd = 141 then .bool false else if zd = 140 then .bool false else zS zd, by simp [hb3], by kernel_rfl, ⟨hF.1, hF.2.1, hF.2.2.1, fun _ => rfl, fun _ => rfl, hF.2.2.2.2.2.1, hF.2.2.2.2.2.2.1, hF.2.2.2.2.2.2.2.1, hF.2.2.2.2.2.2.2.2.1, hF.2.2.2.2.2.2.2.2.2.1, hF.2.2.2.2.2.2.2.2.2.2.1, hF.2.2.2.2.2.2.2.2.2.2.2.1, hF.2.2.2.2.2.2.2.2.2.2.2.2.1, hF.2.2.2.2.2.2.2.2.2.2.2.2.2.1, hF.2.2.2.2.2.2.2.2.2.2.2.2.2.2.1, hF.2.2.2.2.2.2.2.2.2.2.2.2.2.2.2.1, hF.2.2.2.2.2.2.2.2.2.2.2.2.2.2.2.2⟩, hW⟩
                refine StepsI.cons rfl ?_ ?_
                · rintro L zA v8 ⟨zB, zS, rfl, rfl, hF, hW⟩ hL hm K hK
                  have hb5 : zB 5 = false := by simpa using hL
                  have hb4 : zB 4 = true := by cases e : zB 4 with | false => (exfalso; revert hm; simp [metB, Region.binds, e]) | true => rfl
                  have e4 : zS 141 = .bool false := hF.2.2.2.2.1 hb4
                  clear hL hm
                  simp only [puts, Act.put, List.setIfInBounds_toArray, List.set_cons_zero, List.set_cons_succ]
                  simp only [e4]
                  obtain ⟨k0, k1⟩ := hB9 _ hW.1
                  go_simp
                  exact hK.out _ _ ⟨fun zj => if zj = 4 then true else if zj = 5 then true else zB zj, fun zd => if zd = 142 then .agg #[.int .i64 (q : Int), .slice ao' l'.length cp'] else if zd = 141 then .bool false else zS zd, by simp [hb4], by kernel_rfl, ⟨hF.1, hF.2.1, hF.2.2.1, hF.2.2.2.1, fun _ => rfl, fun _ => rfl, hF.2.2.2.2.2.2.1, hF.2.2.2.2.2.2.2.1, hF.2.2.2.2.2.2.2.2.1, hF.2.2.2.2.2.2.2.2.2.1, hF.2.2.2.2.2.2.2.2.2.2.1, hF.2.2.2.2.2.2.2.2.2.2.2.1, hF.2.2.2.2.2.2.2.2.2.2.2.2.1, hF.2.2.2.2.2.2.2.2.2.2.2.2.2.1, hF.2.2.2.2.2.2.2.2.2.2.2.2.2.2.1, hF.2.2.2.2.2.2.2.2.2.2.2.2.2.2.2.1, hF.2.2.2.2.2.2.2.2.2.2.2.2.2.2.2.2⟩, hW⟩
                refine StepsI.cons rfl ?_ ?_
                · rintro L zA v8 ⟨zB, zS, rfl, rfl, hF, hW⟩ hL hm K hK
                  have hb6 : zB 6 = false := by simpa using hL
                  have hb4 : zB 4 = true := by cases e : zB 4 with | false => (exfalso; revert hm; simp [metB, Region.binds, e]) | true => rfl
                  have e4 : zS 141 = .bool false := hF.2.2.2.2.1 hb4
                  clear hL hm
                  simp only [puts, Act.put, List.setIfInBounds_toArray, List.set_cons_zero, List.set_cons_succ]
                  simp only [e4]
                  obtain ⟨k0, k1⟩ := hA9 _ hW.1
                  go_simp
                  exact hK.out _ _ ⟨fun zj => if zj = 4 then true else if zj = 6 then true else zB zj, fun zd => if zd = 143 then .agg #[.int .i64 (q : Int), .slice ao l.length cp] else if zd = 141 then .bool false else zS zd, by simp [hb4], by kernel_rfl, ⟨hF.1, hF.2.1, hF.2.2.1, hF.2.2.2.1, fun _ => rfl, hF.2.2.2.2.2.1, fun _ => rfl, hF.2.2.2.2.2.2.2.1, hF.2.2.2.2.2.2.2.2.1, hF.2.2.2.2.2.2.2.2.2.1, hF.2.2.2.2.2.2.2.2.2.2.1, hF.2.2.2.2.2.2.2.2.2.2.2.1, hF.2.2.2.2.2.2.2.2.2.2.2.2.1, hF.2.2.2.2.2.2.2.2.2.2.2.2.2.1, hF.2.2.2.2.2.2.2.2.2.2.2.2.2.2.1, hF.2.2.2.2.2.2.2.2.2.2.2.2.2.2.2.1, hF.2.2.2.2.2.2.2.2.2.2.2.2.2.2.2.2⟩, hW⟩
                refine StepsI.cons rfl ?_ ?_
                · rintro L zA v8 ⟨zB, zS, rfl, rfl, hF, hW⟩ hL hm K hK
                  have hb7 : zB 7 = false := by simpa using hL
                  have hb4 : zB 4 = true := by cases e : zB 4 with | false => (exfalso; revert hm; simp [metB, Region.binds, e]) | true => rfl
                  have hb5 : zB 5 = true := by cases e : zB 5 with | false => (exfalso; revert hm; simp [metB, Region.binds, e]) | true => rfl
                  have hb6 : zB 6 = true := by cases e : zB 6 with | false => (exfalso; revert hm; simp [metB, Region.binds, e]) | true => rfl
                  have e4 : zS 141 = .bool false := hF.2.2.2.2.1 hb4
                  have e5 : zS 142 = .agg #[.int .i64 (q : Int), .slice ao' l'.length cp'] := hF.2.2.2.2.2.1 hb5
                  have e6 : zS 143 = .agg #[.int .i64 (q : Int), .slice ao l.length cp] := hF.2.2.2.2.2.2.1 hb6
                  clear hL hm
                  simp only [puts, Act.put, List.setIfInBounds_toArray, List.set_cons_zero, List.set_cons_succ]
                  simp only [e4, e5, e6]
                  go_simp
                  refine (C35.out _ (LA.out.below hW.1) (LB.out.below hW.1)).mono ?_
                  rintro e v82 ⟨rfl, hb⟩
                  go_wp2_with fail
                  exact hK.out _ _ ⟨fun zj => if zj = 6 then true else if zj = 5 then true else if zj = 4 then true else if zj = 7 then true else zB zj, fun zd => if zd = 144 then .bool false else if zd = 143 then .agg #[.int .i64 (q : Int), .slice ao l.length cp] else if zd = 142 then .agg #[.int .i64 (q : Int), .slice ao' l'.length cp'] else if zd = 141 then .bool false else zS zd, by simp [hb4, hb5, hb6], by kernel_rfl, ⟨hF.1, hF.2.1, hF.2.2.1, hF.2.2.2.1, fun _ => rfl, fun _ => rfl, fun _ => rfl, fun _ => rfl, hF.2.2.2.2.2.2.2.2.1, hF.2.2.2.2.2.2.2.2.2.1, hF.2.2.2.2.2.2.2.2.2.2.1, hF.2.2.2.2.2.2.2.2.2.2.2.1, hF.2.2.2.2.2.2.2.2.2.2.2.2.1, hF.2.2.2.2.2.2.2.2.2.2.2.2.2.1, hF.2.2.2.2.2.2.2.2.2.2.2.2.2.2.1, hF.2.2.2.2.2.2.2.2.2.2.2.2.2.2.2.1, hF.2.2.2.2.2.2.2.2.2.2.2.2.2.2.2.2⟩, ⟨below_step hW.1 hb, trivial⟩⟩
                refine StepsI.cons rfl ?_ ?_
                · rintro L zA v8 ⟨zB, zS, rfl, rfl, hF, hW⟩ hL hm K hK
                  have hb8 : zB 8 = false := by simpa using hL
                  have hb4 : zB 4 = true := by cases e : zB 4 with | false => (exfalso; revert hm; simp [metB, Region.binds, e]) | true => rfl
                  have hb7 : zB 7 = true := by cases e : zB 7 with | false => (exfalso; revert hm; simp [metB, Region.binds, e]) | true => rfl
                  have e4 : zS 141 = .bool false := hF.2.2.2.2.1 hb4
                  have e7 : zS 144 = .bool false := hF.2.2.2.2.2.2.2.1 hb7
                  clear hL hm
                  simp only [puts, Act.put, List.setIfInBounds_toArray, List.set_cons_zero, List.set_cons_succ]
                  simp only [e4, e7]
                  go_simp
                  exact hK.out _ _ ⟨fun zj => if zj = 7 then true else if zj = 4 then true else if zj = 8 then true else zB zj, fun zd => if zd = 145 then .bool true else if zd = 144 then .bool false else if zd = 141 then .bool false else zS zd, by simp [hb4, hb7], by kernel_rfl, ⟨hF.1, hF.2.1, hF.2.2.1, hF.2.2.2.1, fun _ => rfl, hF.2.2.2.2.2.1, hF.2.2.2.2.2.2.1, fun _ => rfl, fun _ => rfl, hF.2.2.2.2.2.2.2.2.2.1, hF.2.2.2.2.2.2.2.2.2.2.1, hF.2.2.2.2.2.2.2.2.2.2.2.1, hF.2.2.2.2.2.2.2.2.2.2.2.2.1, hF.2.2.2.2.2.2.2.2.2.2.2.2.2.1, hF.2.2.2.2.2.2.2.2.2.2.2.2.2.2.1, hF.2.2.2.2.2.2.2.2.2.2.2.2.2.2.2.1, hF.2.2.2.2.2.2.2.2.2.2.2.2.2.2.2.2⟩, hW⟩
                refine StepsI.cons rfl ?_ ?_
                · rintro L zA v8 ⟨zB, zS, rfl, rfl, hF, hW⟩ hL hm K hK
                  have hb9 : zB 9 = false := by simpa using hL
                  have hb4 : zB 4 = true := by cases e : zB 4 with | false => (exfalso; revert hm; simp [metB, Region.binds, e]) | true => rfl
                  have hb8 : zB 8 = true := by cases e : zB 8 with | false => (exfalso; revert hm; simp [metB, Region.binds, e]) | true => rfl
                  have e4 : zS 141 = .bool false := hF.2.2.2.2.1 hb4
                  have e8 : zS 145 = .bool true := hF.2.2.2.2.2.2.2.2.1 hb8
                  clear hL hm
                  simp only [puts, Act.put, List.setIfInBounds_toArray, List.set_cons_zero, List.set_cons_succ]
                  simp only [e4, e8]
                  go_simp
                  exact hK.out _ _ ⟨fun zj => if zj = 8 then true else if zj = 4 then true else if zj = 9 then true else zB zj, fun zd => if zd = 146 then .bool true else if zd = 145 then .bool true else if zd = 141 then .bool false else zS zd, by simp [hb4, hb8], by kernel_rfl, ⟨hF.1, hF.2.1, hF.2.2.1, hF.2.2.2.1, fun _ => rfl, hF.2.2.2.2.2.1, hF.2.2.2.2.2.2.1, hF.2.2.2.2.2.2.2.1, fun _ => rfl, fun _ => rfl, hF.2.2.2.2.2.2.2.2.2.2.1, hF.2.2.2.2.2.2.2.2.2.2.2.1, hF.2.2.2.2.2.2.2.2.2.2.2.2.1, hF.2.2.2.2.2.2.2.2.2.2.2.2.2.1, hF.2.2.2.2.2.2.2.2.2.2.2.2.2.2.1, hF.2.2.2.2.2.2.2.2.2.2.2.2.2.2.2.1, hF.2.2.2.2.2.2.2.2.2.2.2.2.2.2.2.2⟩, hW⟩
                refine StepsI.cons rfl ?_ ?_
                · rintro L zA v8 ⟨zB, zS, rfl, rfl, hF, hW⟩ hL hm K hK
                  have hb10 : zB 10 = false := by simpa using hL
                  have hb9 : zB 9 = true := by cases e : zB 9 with | false => (exfalso; revert hm; simp [metB, Region.binds, e]) | true => rfl
                  have e9 : zS 146 = .bool true := hF.2.2.2.2.2.2.2.2.2.1 hb9
                  clear hL hm
                  simp only [puts, Act.put, List.setIfInBounds_toArray, List.set_cons_zero, List.set_cons_succ]
                  simp only [e9]
                  go_simp
                  exact hK.out _ _ ⟨fun zj => if zj = 9 then true else if zj = 10 then true else zB zj, fun zd => if zd = 147 then .bool true else if zd = 146 then .bool true else zS zd, by simp [hb9], by kernel_rfl, ⟨hF.1, hF.2.1, hF.2.2.1, hF.2.2.2.1, hF.2.2.2.2.1, hF.2.2.2.2.2.1, hF.2.2.2.2.2.2.1, hF.2.2.2.2.2.2.2.1, hF.2.2.2.2.2.2.2.2.1, fun _ => rfl, fun _ => rfl, hF.2.2.2.2.2.2.2.2.2.2.2.1, hF.2.2.2.2.2.2.2.2.2.2.2.2.1, hF.2.2.2.2.2.2.2.2.2.2.2.2.2.1, hF.2.2.2.2.2.2.2.2.2.2.2.2.2.2.1, hF.2.2.2.2.2.2.2.2.2.2.2.2.2.2.2.1, hF.2.2.2.2.2.2.2.2.2.2.2.2.2.2.2.2⟩, hW⟩
                refine StepsI.cons rfl ?_ ?_
                · rintro L zA v8 ⟨zB, zS, rfl, rfl, hF, hW⟩ hL hm K hK
                  have hb11 : zB 11 = false := by simpa using hL
                  have hb10 : zB 10 = true := by cases e : zB 10 with | false => (exfalso; revert hm; simp [metB, Region.binds, e]) | true => rfl
                  have e10 : zS 147 = .bool true := hF.2.2.2.2.2.2.2.2.2.2.1 hb10
                  clear hL hm
                  simp only [puts, Act.put, List.setIfInBounds_toArray, List.set_cons_zero, List.set_cons_succ]
                  simp only [e10]
                  rw [if_neg (by exact Bool.false_ne_true)]
                  exact hK.out _ _ ⟨fun zj => if zj = 10 then true else if zj = 11 then true else zB zj, fun zd => if zd = 148 then undef else if zd = 147 then .bool true else zS zd, by simp [hb10], by kernel_rfl, ⟨hF.1, hF.2.1, hF.2.2.1, hF.2.2.2.1, hF.2.2.2.2.1, hF.2.2.2.2.2.1, hF.2.2.2.2.2.2.1, hF.2.2.2.2.2.2.2.1, hF.2.2.2.2.2.2.2.2.1, hF.2.2.2.2.2.2.2.2.2.1, fun _ => rfl, fun _ => rfl, hF.2.2.2.2.2.2.2.2.2.2.2.2.1, hF.2.2.2.2.2.2.2.2.2.2.2.2.2.1, hF.2.2.2.2.2.2.2.2.2.2.2.2.2.2.1, hF.2.2.2.2.2.2.2.2.2.2.2.2.2.2.2.1, hF.2.2.2.2.2.2.2.2.2.2.2.2.2.2.2.2⟩, hW⟩
                refine StepsI.cons rfl ?_ ?_
                · rintro L zA v8 ⟨zB, zS, rfl, rfl, hF, hW⟩ hL hm K hK
                  have hb12 : zB 12 = false := by simpa using hL
                  have hb10 : zB 10 = true := by cases e : zB 10 with | false => (exfalso; revert hm; simp [metB, Region.binds, e]) | true => rfl
                  have e10 : zS 147 = .bool true := hF.2.2.2.2.2.2.2.2.2.2.1 hb10
                  clear hL hm
                  simp only [puts, Act.put, List.setIfInBounds_toArray, List.set_cons_zero, List.set_cons_succ]
                  simp only [e10]
                  rw [if_neg (by exact Bool.false_ne_true)]
                  exact hK.out _ _ ⟨fun zj => if zj = 10 then true else if zj = 12 then true else zB zj, fun zd => if zd = 149 then undef else if zd = 147 then .bool true else zS zd, by simp [hb10], by kernel_rfl, ⟨hF.1, hF.2.1, hF.2.2.1, hF.2.2.2.1, hF.2.2.2.2.1, hF.2.2.2.2.2.1, hF.2.2.2.2.2.2.1, hF.2.2.2.2.2.2.2.1, hF.2.2.2.2.2.2.2.2.1, hF.2.2.2.2.2.2.2.2.2.1, fun _ => rfl, hF.2.2.2.2.2.2.2.2.2.2.2.1, fun _ => rfl, hF.2.2.2.2.2.2.2.2.2.2.2.2.2.1, hF.2.2.2.2.2.2.2.2.2.2.2.2.2.2.1, hF.2.2.2.2.2.2.2.2.2.2.2.2.2.2.2.1, hF.2.2.2.2.2.2.2.2.2.2.2.2.2.2.2.2⟩, hW⟩
                refine StepsI.cons rfl ?_ ?_
                · rintro L zA v8 ⟨zB, zS, rfl, rfl, hF, hW⟩ hL hm K hK
                  have hb13 : zB 13 = false := by simpa using hL
                  have hb10 : zB 10 = true := by cases e : zB 10 with | false => (exfalso; revert hm; simp [metB, Region.binds, e]) | true => rfl
                  have e10 : zS 147 = .bool true := hF.2.2.2.2.2.2.2.2.2.2.1 hb10
                  clear hL hm
                  simp only [puts, Act.put, List.setIfInBounds_toArray, List.set_cons_zero, List.set_cons_succ]
                  simp only [e10]
                  rw [if_neg (by exact Bool.false_ne_true)]
                  exact hK.out _ _ ⟨fun zj => if zj = 10 then true else if zj = 13 then true else zB zj, fun zd => if zd = 150 then undef else if zd = 147 then .bool true else zS zd, by simp [hb10], by kernel_rfl, ⟨hF.1, hF.2.1, hF.2.2.1, hF.2.2.2.1, hF.2.2.2.2.1, hF.2.2.2.2.2.1, hF.2.2.2.2.2.2.1, hF.2.2.2.2.2.2.2.1, hF.2.2.2.2.2.2.2.2.1, hF.2.2.2.2.2.2.2.2.2.1, fun _ => rfl, hF.2.2.2.2.2.2.2.2.2.2.2.1, hF.2.2.2.2.2.2.2.2.2.2.2.2.1, fun _ => rfl, hF.2.2.2.2.2.2.2.2.2.2.2.2.2.2.1, hF.2.2.2.2.2.2.2.2.2.2.2.2.2.2.2.1, hF.2.2.2.2.2.2.2.2.2.2.2.2.2.2.2.2⟩, hW⟩
                refine StepsI.cons rfl ?_ ?_
                · rintro L zA v8 ⟨zB, zS, rfl, rfl, hF, hW⟩ hL hm K hK
                  have hb14 : zB 14 = false := by simpa using hL
                  have hb10 : zB 10 = true := by cases e : zB 10 with | false => (exfalso; revert hm; simp [metB, Region.binds, e]) | true => rfl
                  have e10 : zS 147 = .bool true := hF.2.2.2.2.2.2.2.2.2.2.1 hb10
                  clear hL hm
                  simp only [puts, Act.put, List.setIfInBounds_toArray, List.set_cons_zero, List.set_cons_succ]
                  simp only [e10]
                  rw [if_neg (by exact Bool.false_ne_true)]
                  exact hK.out _ _ ⟨fun zj => if zj = 10 then true else if zj = 14 then true else zB zj, fun zd => if zd = 151 then undef else if zd = 147 then .bool true else zS zd, by simp [hb10], by kernel_rfl, ⟨hF.1, hF.2.1, hF.2.2.1, hF.2.2.2.1, hF.2.2.2.2.1, hF.2.2.2.2.2.1, hF.2.2.2.2.2.2.1, hF.2.2.2.2.2.2.2.1, hF.2.2.2.2.2.2.2.2.1, hF.2.2.2.2.2.2.2.2.2.1, fun _ => rfl, hF.2.2.2.2.2.2.2.2.2.2.2.1, hF.2.2.2.2.2.2.2.2.2.2.2.2.1, hF.2.2.2.2.2.2.2.2.2.2.2.2.2.1, fun _ => rfl, hF.2.2.2.2.2.2.2.2.2.2.2.2.2.2.2.1, hF.2.2.2.2.2.2.2.2.2.2.2.2.2.2.2.2⟩, hW⟩
                refine StepsI.cons rfl ?_ ?_
                · rintro L zA v8 ⟨zB, zS, rfl, rfl, hF, hW⟩ hL hm K hK
                  have hb15 : zB 15 = false := by simpa using hL
                  have hb10 : zB 10 = true := by cases e : zB 10 with | false => (exfalso; revert hm; simp [metB, Region.binds, e]) | true => rfl
                  have hb14 : zB 14 = true := by cases e : zB 14 with | false => (exfalso; revert hm; simp [metB, Region.binds, e]) | true => rfl
                  have e10 : zS 147 = .bool true := hF.2.2.2.2.2.2.2.2.2.2.1 hb10
                  have e14 : zS 151 = undef := hF.2.2.2.2.2.2.2.2.2.2.2.2.2.2.1 hb14
                  clear hL hm
                  simp only [puts, Act.put, List.setIfInBounds_toArray, List.set_cons_zero, List.set_cons_succ]
                  simp only [e10, e14]
                  go_simp
                  exact hK.out _ _ ⟨fun zj => if zj = 14 then true else if zj = 10 then true else if zj = 15 then true else zB zj, fun zd => if zd = 152 then .bool true else if zd = 151 then undef else if zd = 147 then .bool true else zS zd, by simp [hb10, hb14], by kernel_rfl, ⟨hF.1, hF.2.1, hF.2.2.1, hF.2.2.2.1, hF.2.2.2.2.1, hF.2.2.2.2.2.1, hF.2.2.2.2.2.2.1, hF.2.2.2.2.2.2.2.1, hF.2.2.2.2.2.2.2.2.1, hF.2.2.2.2.2.2.2.2.2.1, fun _ => rfl, hF.2.2.2.2.2.2.2.2.2.2.2.1, hF.2.2.2.2.2.2.2.2.2.2.2.2.1, hF.2.2.2.2.2.2.2.2.2.2.2.2.2.1, fun _ => rfl, fun _ => rfl, hF.2.2.2.2.2.2.2.2.2.2.2.2.2.2.2.2⟩, hW⟩
                refine StepsI.cons rfl ?_ ?_
                · rintro L zA v8 ⟨zB, zS, rfl, rfl, hF, hW⟩ hL hm K hK
                  have hb16 : zB 16 = false := by simpa using hL
                  have hb15 : zB 15 = true := by cases e : zB 15 with | false => (exfalso; revert hm; simp [metB, Region.binds, e]) | true => rfl
                  have e15 : zS 152 = .bool true := hF.2.2.2.2.2.2.2.2.2.2.2.2.2.2.2.1 hb15
                  clear hL hm
                  simp only [puts, Act.put, List.setIfInBounds_toArray, List.set_cons_zero, List.set_cons_succ]
                  simp only [e15]
                  go_simp
                  exact hK.out _ _ ⟨fun zj => if zj = 15 then true else if zj = 16 then true else zB zj, fun zd => if zd = 4 then .bool true else if zd = 152 then .bool true else zS zd, by simp [hb15], by kernel_rfl, ⟨hF.1, hF.2.1, hF.2.2.1, hF.2.2.2.1, hF.2.2.2.2.1, hF.2.2.2.2.2.1, hF.2.2.2.2.2.2.1, hF.2.2.2.2.2.2.2.1, hF.2.2.2.2.2.2.2.2.1, hF.2.2.2.2.2.2.2.2.2.1, hF.2.2.2.2.2.2.2.2.2.2.1, hF.2.2.2.2.2.2.2.2.2.2.2.1, hF.2.2.2.2.2.2.2.2.2.2.2.2.1, hF.2.2.2.2.2.2.2.2.2.2.2.2.2.1, hF.2.2.2.2.2.2.2.2.2.2.2.2.2.2.1, fun _ => rfl, fun _ => rfl⟩, hW⟩
                exact StepsI.nil (by kernel_rfl)
              · rintro L zA v8 ⟨zB, zS, rfl, rfl, hF, hW⟩ hr
                have hu := all_up (by kernel_rfl) (N := 17) (by kernel_rfl) hr
                have hb0 : zB 0 = true := by simpa using hu 0 (by decide)
                have hb1 : zB 1 = true := by simpa using hu 1 (by decide)
                have hb2 : zB 2 = true := by simpa using hu 2 (by decide)
                have hb3 : zB 3 = true := by simpa using hu 3 (by decide)
                have hb4 : zB 4 = true := by simpa using hu 4 (by decide)
                have hb5 : zB 5 = true := by simpa using hu 5 (by decide)
                have hb6 : zB 6 = true := by simpa using hu 6 (by decide)
                have hb7 : zB 7 = true := by simpa using hu 7 (by decide)
                have hb8 : zB 8 = true := by simpa using hu 8 (by decide)
                have hb9 : zB 9 = true := by simpa using hu 9 (by decide)
                have hb10 : zB 10 = true := by simpa using hu 10 (by decide)
                have hb11 : zB 11 = true := by simpa using hu 11 (by decide)
                have hb12 : zB 12 = true := by simpa using hu 12 (by decide)
                have hb13 : zB 13 = true := by simpa using hu 13 (by decide)
                have hb14 : zB 14 = true := by simpa using hu 14 (by decide)
                have hb15 : zB 15 = true := by simpa using hu 15 (by decide)
                have hb16 : zB 16 = true := by simpa using hu 16 (by decide)
                have e0 : zS 137 = .agg #[.int .i64 (q : Int), .slice ao l.length cp] := hF.1 hb0
                have e1 : zS 138 = .agg #[.int .i64 (q : Int), .slice ao' l'.length cp'] := hF.2.1 hb1
                have e2 : zS 139 = .bool true := hF.2.2.1 hb2
                have e3 : zS 140 = .bool false := hF.2.2.2.1 hb3
                have e4 : zS 141 = .bool false := hF.2.2.2.2.1 hb4
                have e5 : zS 142 = .agg #[.int .i64 (q : Int), .slice ao' l'.length cp'] := hF.2.2.2.2.2.1 hb5
                have e6 : zS 143 = .agg #[.int .i64 (q : Int), .slice ao l.length cp] := hF.2.2.2.2.2.2.1 hb6
                have e7 : zS 144 = .bool false := hF.2.2.2.2.2.2.2.1 hb7
                have e8 : zS 145 = .bool true := hF.2.2.2.2.2.2.2.2.1 hb8
                have e9 : zS 146 = .bool true := hF.2.2.2.2.2.2.2.2.2.1 hb9
                have e10 : zS 147 = .bool true := hF.2.2.2.2.2.2.2.2.2.2.1 hb10
                have e11 : zS 148 = undef := hF.2.2.2.2.2.2.2.2.2.2.2.1 hb11
                have e12 : zS 149 = undef := hF.2.2.2.2.2.2.2.2.2.2.2.2.1 hb12
                have e13 : zS 150 = undef := hF.2.2.2.2.2.2.2.2.2.2.2.2.2.1 hb13
                have e14 : zS 151 = undef := hF.2.2.2.2.2.2.2.2.2.2.2.2.2.2.1 hb14
                have e15 : zS 152 = .bool true := hF.2.2.2.2.2.2.2.2.2.2.2.2.2.2.2.1 hb15
                have e16 : zS 4 = .bool true := hF.2.2.2.2.2.2.2.2.2.2.2.2.2.2.2.2 hb16
                clear hu hr hF
                simp only [puts, Act.put, List.setIfInBounds_toArray, List.set_cons_zero, List.set_cons_succ]
                simp only [e0, e1, e2, e3, e4, e5, e6, e7, e8, e9, e10, e11, e12, e13, e14, e15, e16]
                clear e0 e1 e2 e3 e4 e5 e6 e7 e8 e9 e10 e11 e12 e13 e14 e15 e16
                clear hb0 hb1 hb2 hb3 hb4 hb5 hb6 hb7 hb8 hb9 hb10 hb11 hb12 hb13 hb14 hb15 hb16
                clear zB zS
                have hb2 := hW.1
                have BE := mkHid (below_step BE.out hb2)
                clear hb2 hW
                go_wp2
                go_ret
                exact ⟨by first | rfl | (simp; done), BE.out⟩
            · have hA9 : ∀ v', Below v9.heap.size v9 v' → v'.cell? ⟨A, 0, none⟩ = some (.int .i64 (q : Int)) ∧ v'.cell? ⟨A, 1, none⟩ = some (.slice ao l.length cp) := fun v' h => FA.out.below h
              have hB9 : ∀ v', Below v9.heap.size v9 v' → v'.cell? ⟨A + 1, 0, none⟩ = some (.int .i64 (q : Int)) ∧ v'.cell? ⟨A + 1, 1, none⟩ = some (.slice ao' l'.length cp') := fun v' h => FB.out.below h
              have hX9 : ∀ v', Below v9.heap.size v9 v' → v'.cell? ⟨X, 0, none⟩ = some (.int .i64 zx) ∧ v'.cell? ⟨X, 1, none⟩ = some (.slice aX lx.length cX) := fun v' h => FX.out.below h
              have C34 : Hid (∀ v, IntsAt v ao l → IntsAt v ao' l' → Calls Try.prog 34 #[.agg #[.int .i64 q, .slice ao l.length cp], .agg #[.int .i64 q, .slice ao' l'.length cp']] v fun e w' => e = .returned (.bool true) ∧ Below v.heap.size v w') := mkHid fun v h1 h2 => by rw [← hB1]; exact sLeq_any q l ao cp q l' ao' cp' v h1 h2
              have C35 : Hid (∀ v, IntsAt v ao l → IntsAt v ao' l' → Calls Try.prog 34 #[.agg #[.int .i64 q, .slice ao' l'.length cp'], .agg #[.int .i64 q, .slice ao l.length cp]] v fun e w' => e = .returned (.bool true) ∧ Below v.heap.size v w') := mkHid fun v h1 h2 => by rw [← hB2]; exact sLeq_any q l' ao' cp' q l ao cp v h2 h1
              have C12 : Hid (∀ v, IntsAt v ao' l' → Calls Try.prog 12 #[.agg #[.int .i64 q, .slice ao' l'.length cp']] v fun e w' => Gives v w' e zx lx) := mkHid fun v h1 => by have e := EX.out; have h9 := iClose_any q l' ao' cp' v HZ'.out.2 h1; have g := leq_both okA okB hB1 hB2; rw [Int.toNat_natCast] at h9; change Calls _ _ _ _ (fun e w' => Gives v w' e (outZ (cF q l') q) (outL (cF q l') q)) at h9; rw [← g.1, ← g.2, e.1, e.2] at h9; exact h9
              clear hB1 hB2
              go_wp2_with fail
              refine wp_region_inv2 (fun zA0 L zA v8 => ∃ (zB : Nat → Bool) (zS : Nat → Value) (qa0 : Option Addr) (qc0 : Nat), L = #[zB 0, zB 1, zB 2, zB 3, zB 4, zB 5, zB 6, zB 7, zB 8, zB 9, zB 10, zB 11, zB 12, zB 13, zB 14, zB 15, zB 16] ∧ zA = puts zA0 [(137, zS 137), (138, zS 138), (139, zS 139), (140, zS 140), (141, zS 141), (142, zS 142), (143, zS 143), (144, zS 144), (145, zS 145), (146, zS 146), (147, zS 147), (148, zS 148), (149, zS 149), (150, zS 150), (151, zS 151), (152, zS 152), (4, zS 4)] ∧ ((zB 0 = true → zS 137 = .agg #[.int .i64 (q : Int), .slice ao l.length cp]) ∧ (zB 1 = true → zS 138 = .agg #[.int .i64 (q : Int), .slice ao' l'.length cp']) ∧ (zB 2 = true → zS 139 = .bool true) ∧ (zB 3 = true → zS 140 = .bool false) ∧ (zB 4 = true → zS 141 = .bool false) ∧ (zB 5 = true → zS 142 = .agg #[.int .i64 (q : Int), .slice ao' l'.length cp']) ∧ (zB 6 = true → zS 143 = .agg #[.int .i64 (q : Int), .slice ao l.length cp]) ∧ (zB 7 = true → zS 144 = .bool true) ∧ (zB 8 = true → zS 145 = .bool false) ∧ (zB 9 = true → zS 146 = .bool false) ∧ (zB 10 = true → zS 147 = .bool false) ∧ (zB 11 = true → zS 148 = .agg #[.int .i64 zx, .slice aX lx.length cX]) ∧ (zB 12 = true → zS 149 = .agg #[.int .i64 (q : Int), .slice ao' l'.length cp']) ∧ (zB 13 = true → zS 150 = .agg #[.int .i64 zx, .slice qa0 lx.length qc0]) ∧ (zB 14 = true → zS 151 = .bool true) ∧ (zB 15 = true → zS 152 = .bool true) ∧ (zB 16 = true → zS 4 = .bool true)) ∧ Below v9.heap.size v9 v8 ∧ ((zB 13) = true → IntsAt v8 qa0 lx)) (by kernel_rfl) ?_ ?_ ?_
              · exact ⟨fun _ => false, fun zd => if zd = 152 then u152 else if zd = 151 then u151 else if zd = 150 then u150 else if zd = 149 then u149 else if zd = 148 then u148 else if zd = 147 then u147 else if zd = 146 then u146 else if zd = 145 then u145 else if zd = 144 then u144 else if zd = 143 then u143 else if zd = 142 then u142 else if zd = 141 then u141 else if zd = 140 then u140 else if zd = 139 then u139 else if zd = 138 then u138 else if zd = 137 then u137 else if zd = 4 then .bool false else undef, none, 0, rfl, by kernel_rfl, ⟨fun e => ft e, fun e => ft e, fun e => ft e, fun e => ft e, fun e => ft e, fun e => ft e, fun e => ft e, fun e => ft e, fun e => ft e, fun e => ft e, fun e => ft e, fun e => ft e, fun e => ft e, fun e => ft e, fun e => ft e, fun e => ft e, fun e => ft e⟩, ⟨(Below.refl _ _).drew, fun e => ft e⟩⟩
              · refine StepsI.cons rfl ?_ ?_
                · rintro L zA v8 ⟨zB, zS, qa0, qc0, rfl, rfl, hF, hW⟩ hL hm K hK
                  have hb0 : zB 0 = false := by simpa using hL
                  clear hL hm
                  simp only [puts, Act.put, List.setIfInBounds_toArray, List.set_cons_zero, List.set_cons_succ]
                  obtain ⟨k0, k1⟩ := hA9 _ hW.1
                  go_simp
                  exact hK.out _ _ ⟨fun zj => if zj = 0 then true else zB zj, fun zd => if zd = 137 then .agg #[.int .i64 (q : Int), .slice ao l.length cp] else zS zd, qa0, qc0, rfl, by kernel_rfl, ⟨fun _ => rfl, hF.2.1, hF.2.2.1, hF.2.2.2.1, hF.2.2.2.2.1, hF.2.2.2.2.2.1, hF.2.2.2.2.2.2.1, hF.2.2.2.2.2.2.2.1, hF.2.2.2.2.2.2.2.2.1, hF.2.2.2.2.2.2.2.2.2.1, hF.2.2.2.2.2.2.2.2.2.2.1, hF.2.2.2.2.2.2.2.2.2.2.2.1, hF.2.2.2.2.2.2.2.2.2.2.2.2.1, hF.2.2.2.2.2.2.2.2.2.2.2.2.2.1, hF.2.2.2.2.2.2.2.2.2.2.2.2.2.2.1, hF.2.2.2.2.2.2.2.2.2.2.2.2.2.2.2.1, hF.2.2.2.2.2.2.2.2.2.2.2.2.2.2.2.2⟩, hW⟩
                refine StepsI.cons rfl ?_ ?_
                · rintro L zA v8 ⟨zB, zS, qa0, qc0, rfl, rfl, hF, hW⟩ hL hm K hK
                  have hb1 : zB 1 = false := by simpa using hL
                  clear hL hm
                  simp only [puts, Act.put, List.setIfInBounds_toArray, List.set_cons_zero, List.set_cons_succ]
                  obtain ⟨k0, k1⟩ := hB9 _ hW.1
                  go_simp
                  exact hK.out _ _ ⟨fun zj => if zj = 1 then true else zB zj, fun zd => if zd = 138 then .agg #[.int .i64 (q : Int), .slice ao' l'.length cp'] else zS zd, qa0, qc0, rfl, by kernel_rfl, ⟨hF.1, fun _ => rfl, hF.2.2.1, hF.2.2.2.1, hF.2.2.2.2.1, hF.2.2.2.2.2.1, hF.2.2.2.2.2.2.1, hF.2.2.2.2.2.2.2.1, hF.2.2.2.2.2.2.2.2.1, hF.2.2.2.2.2.2.2.2.2.1, hF.2.2.2.2.2.2.2.2.2.2.1, hF.2.2.2.2.2.2.2.2.2.2.2.1, hF.2.2.2.2.2.2.2.2.2.2.2.2.1, hF.2.2.2.2.2.2.2.2.2.2.2.2.2.1, hF.2.2.2.2.2.2.2.2.2.2.2.2.2.2.1, hF.2.2.2.2.2.2.2.2.2.2.2.2.2.2.2.1, hF.2.2.2.2.2.2.2.2.2.2.2.2.2.2.2.2⟩, hW⟩
                refine StepsI.cons rfl ?_ ?_
                · rintro L zA v8 ⟨zB, zS, qa0, qc0, rfl, rfl, hF, hW⟩ hL hm K hK
                  have hb2 : zB 2 = false := by simpa using hL
                  have hb0 : zB 0 = true := by cases e : zB 0 with | false => (exfalso; revert hm; simp [metB, Region.binds, e]) | true => rfl
                  have hb1 : zB 1 = true := by cases e : zB 1 with | false => (exfalso; revert hm; simp [metB, Region.binds, e]) | true => rfl
                  have e0 : zS 137 = .agg #[.int .i64 (q : Int), .slice ao l.length cp] := hF.1 hb0
                  have e1 : zS 138 = .agg #[.int .i64 (q : Int), .slice ao' l'.length cp'] := hF.2.1 hb1
                  clear hL hm
                  simp only [puts, Act.put, List.setIfInBounds_toArray, List.set_cons_zero, List.set_cons_succ]
                  simp only [e0, e1]
                  go_simp
                  refine (C34.out _ (LA.out.below hW.1) (LB.out.below hW.1)).mono ?_
                  rintro e v82 ⟨rfl, hb⟩
                  go_wp2_with fail
                  exact hK.out _ _ ⟨fun zj => if zj = 1 then true else if zj = 0 then true else if zj = 2 then true else zB zj, fun zd => if zd = 139 then .bool true else if zd = 138 then .agg #[.int .i64 (q : Int), .slice ao' l'.length cp'] else if zd = 137 then .agg #[.int .i64 (q : Int), .slice ao l.length cp] else zS zd, qa0, qc0, by simp [hb0, hb1], by kernel_rfl, ⟨fun _ => rfl, fun _ => rfl, fun _ => rfl, hF.2.2.2.1, hF.2.2.2.2.1, hF.2.2.2.2.2.1, hF.2.2.2.2.2.2.1, hF.2.2.2.2.2.2.2.1, hF.2.2.2.2.2.2.2.2.1, hF.2.2.2.2.2.2.2.2.2.1, hF.2.2.2.2.2.2.2.2.2.2.1, hF.2.2.2.2.2.2.2.2.2.2.2.1, hF.2.2.2.2.2.2.2.2.2.2.2.2.1, hF.2.2.2.2.2.2.2.2.2.2.2.2.2.1, hF.2.2.2.2.2.2.2.2.2.2.2.2.2.2.1, hF.2.2.2.2.2.2.2.2.2.2.2.2.2.2.2.1, hF.2.2.2.2.2.2.2.2.2.2.2.2.2.2.2.2⟩, ⟨below_step hW.1 hb, fun q => (hW.2 q).below hb⟩⟩
                refine StepsI.cons rfl ?_ ?_
                · rintro L zA v8 ⟨zB, zS, qa0, qc0, rfl, rfl, hF, hW⟩ hL hm K hK
                  have hb3 : zB 3 = false := by simpa using hL
                  have hb2 : zB 2 = true := by cases e : zB 2 with | false => (exfalso; revert hm; simp [metB, Region.binds, e]) | true => rfl
                  have e2 : zS 139 = .bool true := hF.2.2.1 hb2
                  clear hL hm
                  simp only [puts, Act.put, List.setIfInBounds_toArray, List.set_cons_zero, List.set_cons_succ]
                  simp only [e2]
                  go_simp
                  exact hK.out _ _ ⟨fun zj => if zj = 2 then true else if zj = 3 then true else zB zj, fun zd => if zd = 140 then .bool false else if zd = 139 then .bool true else zS zd, qa0, qc0, by simp [hb2], by kernel_rfl, ⟨hF.1, hF.2.1, fun _ => rfl, fun _ => rfl, hF.2.2.2.2.1, hF.2.2.2.2.2.1, hF.2.2.2.2.2.2.1, hF.2.2.2.2.2.2.2.1, hF.2.2.2.2.2.2.2.2.1, hF.2.2.2.2.2.2.2.2.2.1, hF.2.2.2.2.2.2.2.2.2.2.1, hF.2.2.2.2.2.2.2.2.2.2.2.1, hF.2.2.2.2.2.2.2.2.2.2.2.2.1, hF.2.2.2.2.2.2.2.2.2.2.2.2.2.1, hF.2.2.2.2.2.2.2.2.2.2.2.2.2.2.1, hF.2.2.2.2.2.2.2.2.2.2.2.2.2.2.2.1, hF.2.2.2.2.2.2.2.2.2.2.2.2.2.2.2.2⟩, hW⟩
                refine StepsI.cons rfl ?_ ?_
                · rintro L zA v8 ⟨zB, zS, qa0, qc0, rfl, rfl, hF, hW⟩ hL hm K hK
                  have hb4 : zB 4 = false := by simpa using hL
                  have hb3 : zB 3 = true := by cases e : zB 3 with | false => (exfalso; revert hm; simp [metB, Region.binds, e]) | true => rfl
                  have e3 : zS 140 = .bool false := hF.2.2.2.1 hb3
                  clear hL hm
                  simp only [puts, Act.put, List.setIfInBounds_toArray, List.set_cons_zero, List.set_cons_succ]
                  simp only [e3]
                  go_simp
                  exact hK.out _ _ ⟨fun zj => if zj = 3 then true else if zj = 4 then true else zB zj, fun zd => if zd = 141 then .bool false else if zd = 140 then .bool false else zS zd, qa0, qc0, by simp [hb3], by kernel_rfl, ⟨hF.1, hF.2.1, hF.2.2.1, fun _ => rfl, fun _ => rfl, hF.2.2.2.2.2.1, hF.2.2.2.2.2.2.1, hF.2.2.2.2.2.2.2.1, hF.2.2.2.2.2.2.2.2.1, hF.2.2.2.2.2.2.2.2.2.1, hF.2.2.2.2.2.2.2.2.2.2.1, hF.2.2.2.2.2.2.2.2.2.2.2.1, hF.2.2.2.2.2.2.2.2.2.2.2.2.1, hF.2.2.2.2.2.2.2.2.2.2.2.2.2.1, hF.2.2.2.2.2.2.2.2.2.2.2.2.2.2.1, hF.2.2.2.2.2.2.2.2.2.2.2.2.2.2.2.1, hF.2.2.2.2.2.2.2.2.2.2.2.2.2.2.2.2⟩, hW⟩
                refine StepsI.cons rfl ?_ ?_
                · rintro L zA v8 ⟨zB, zS, qa0, qc0, rfl, rfl, hF, hW⟩ hL hm K hK
                  have hb5 : zB 5 = false := by simpa using hL
                  have hb4 : zB 4 = true := by cases e : zB 4 with | false => (exfalso; revert hm; simp [metB, Region.binds, e]) | true => rfl
                  have e4 : zS 141 = .bool false := hF.2.2.2.2.1 hb4
                  clear hL hm
                  simp only [puts, Act.put, List.setIfInBounds_toArray, List.set_cons_zero, List.set_cons_succ]
                  simp only [e4]
                  obtain ⟨k0, k1⟩ := hB9 _ hW.1
                  go_simp
                  exact hK.out _ _ ⟨fun zj => if zj = 4 then true else if zj = 5 then true else zB zj, fun zd => if zd = 142 then .agg #[.int .i64 (q : Int), .slice ao' l'.length cp'] else if zd = 141 then .bool false else zS zd, qa0, qc0, by simp [hb4], by kernel_rfl, ⟨hF.1, hF.2.1, hF.2.2.1, hF.2.2.2.1, fun _ => rfl, fun _ => rfl, hF.2.2.2.2.2.2.1, hF.2.2.2.2.2.2.2.1, hF.2.2.2.2.2.2.2.2.1, hF.2.2.2.2.2.2.2.2.2.1, hF.2.2.2.2.2.2.2.2.2.2.1, hF.2.2.2.2.2.2.2.2.2.2.2.1, hF.2.2.2.2.2.2.2.2.2.2.2.2.1, hF.2.2.2.2.2.2.2.2.2.2.2.2.2.1, hF.2.2.2.2.2.2.2.2.2.2.2.2.2.2.1, hF.2.2.2.2.2.2.2.2.2.2.2.2.2.2.2.1, hF.2.2.2.2.2.2.2.2.2.2.2.2.2.2.2.2⟩, hW⟩
                refine StepsI.cons rfl ?_ ?_
                · rintro L zA v8 ⟨zB, zS, qa0, qc0, rfl, rfl, hF, hW⟩ hL hm K hK
                  have hb6 : zB 6 = false := by simpa using hL
                  have hb4 : zB 4 = true := by cases e : zB 4 with | false => (exfalso; revert hm; simp [metB, Region.binds, e]) | true => rfl
                  have e4 : zS 141 = .bool false := hF.2.2.2.2.1 hb4
                  clear hL hm
                  simp only [puts, Act.put, List.setIfInBounds_toArray, List.set_cons_zero, List.set_cons_succ]
                  simp only [e4]
                  obtain ⟨k0, k1⟩ := hA9 _ hW.1
                  go_simp
                  exact hK.out _ _ ⟨fun zj => if zj = 4 then true else if zj = 6 then true else zB zj, fun zd => if zd = 143 then .agg #[.int .i64 (q : Int), .slice ao l.length cp] else if zd = 141 then .bool false else zS zd, qa0, qc0, by simp [hb4], by kernel_rfl, ⟨hF.1, hF.2.1, hF.2.2.1, hF.2.2.2.1, fun _ => rfl, hF.2.2.2.2.2.1, fun _ => rfl, hF.2.2.2.2.2.2.2.1, hF.2.2.2.2.2.2.2.2.1, hF.2.2.2.2.2.2.2.2.2.1, hF.2.2.2.2.2.2.2.2.2.2.1, hF.2.2.2.2.2.2.2.2.2.2.2.1, hF.2.2.2.2.2.2.2.2.2.2.2.2.1, hF.2.2.2.2.2.2.2.2.2.2.2.2.2.1, hF.2.2.2.2.2.2.2.2.2.2.2.2.2.2.1, hF.2.2.2.2.2.2.2.2.2.2.2.2.2.2.2.1, hF.2.2.2.2.2.2.2.2.2.2.2.2.2.2.2.2⟩, hW⟩
                refine StepsI.cons rfl ?_ ?_
                · rintro L zA v8 ⟨zB, zS, qa0, qc0, rfl, rfl, hF, hW⟩ hL hm K hK
                  have hb7 : zB 7 = false := by simpa using hL
                  have hb4 : zB 4 = true := by cases e : zB 4 with | false => (exfalso; revert hm; simp [metB, Region.binds, e]) | true => rfl
                  have hb5 : zB 5 = true := by cases e : zB 5 with | false => (exfalso; revert hm; simp [metB, Region.binds, e]) | true => rfl
                  have hb6 : zB 6 = true := by cases e : zB 6 with | false => (exfalso; revert hm; simp [metB, Region.binds, e]) | true => rfl
                  have e4 : zS 141 = .bool false := hF.2.2.2.2.1 hb4
                  have e5 : zS 142 = .agg #[.int .i64 (q : Int), .slice ao' l'.length cp'] := hF.2.2.2.2.2.1 hb5
                  have e6 : zS 143 = .agg #[.int .i64 (q : Int), .slice ao l.length cp] := hF.2.2.2.2.2.2.1 hb6
                  clear hL hm
                  simp only [puts, Act.put, List.setIfInBounds_toArray, List.set_cons_zero, List.set_cons_succ]
                  simp only [e4, e5, e6]
                  go_simp
                  refine (C35.out _ (LA.out.below hW.1) (LB.out.below hW.1)).mono ?_
                  rintro e v82 ⟨rfl, hb⟩
                  go_wp2_with fail
                  exact hK.out _ _ ⟨fun zj => if zj = 6 then true else if zj = 5 then true else if zj = 4 then true else if zj = 7 then true else zB zj, fun zd => if zd = 144 then .bool true else if zd = 143 then .agg #[.int .i64 (q : Int), .slice ao l.length cp] else if zd = 142 then .agg #[.int .i64 (q : Int), .slice ao' l'.length cp'] else if zd = 141 then .bool false else zS zd, qa0, qc0, by simp [hb4, hb5, hb6], by kernel_rfl, ⟨hF.1, hF.2.1, hF.2.2.1, hF.2.2.2.1, fun _ => rfl, fun _ => rfl, fun _ => rfl, fun _ => rfl, hF.2.2.2.2.2.2.2.2.1, hF.2.2.2.2.2.2.2.2.2.1, hF.2.2.2.2.2.2.2.2.2.2.1, hF.2.2.2.2.2.2.2.2.2.2.2.1, hF.2.2.2.2.2.2.2.2.2.2.2.2.1, hF.2.2.2.2.2.2.2.2.2.2.2.2.2.1, hF.2.2.2.2.2.2.2.2.2.2.2.2.2.2.1, hF.2.2.2.2.2.2.2.2.2.2.2.2.2.2.2.1, hF.2.2.2.2.2.2.2.2.2.2.2.2.2.2.2.2⟩, ⟨below_step hW.1 hb, fun q => (hW.2 q).below hb⟩⟩
                refine StepsI.cons rfl ?_ ?_
                · rintro L zA v8 ⟨zB, zS, qa0, qc0, rfl, rfl, hF, hW⟩ hL hm K hK
                  have hb8 : zB 8 = false := by simpa using hL
                  have hb4 : zB 4 = true := by cases e : zB 4 with | false => (exfalso; revert hm; simp [metB, Region.binds, e]) | true => rfl
                  have hb7 : zB 7 = true := by cases e : zB 7 with | false => (exfalso; revert hm; simp [metB, Region.binds, e]) | true => rfl
                  have e4 : zS 141 = .bool false := hF.2.2.2.2.1 hb4
                  have e7 : zS 144 = .bool true := hF.2.2.2.2.2.2.2.1 hb7
                  clear hL hm
                  simp only [puts, Act.put, List.setIfInBounds_toArray, List.set_cons_zero, List.set_cons_succ]
                  simp only [e4, e7]
                  go_simp
                  exact hK.out _ _ ⟨fun zj => if zj = 7 then true else if zj = 4 then true else if zj = 8 then true else zB zj, fun zd => if zd = 145 then .bool false else if zd = 144 then .bool true else if zd = 141 then .bool false else zS zd, qa0, qc0, by simp [hb4, hb7], by kernel_rfl, ⟨hF.1, hF.2.1, hF.2.2.1, hF.2.2.2.1, fun _ => rfl, hF.2.2.2.2.2.1, hF.2.2.2.2.2.2.1, fun _ => rfl, fun _ => rfl, hF.2.2.2.2.2.2.2.2.2.1, hF.2.2.2.2.2.2.2.2.2.2.1, hF.2.2.2.2.2.2.2.2.2.2.2.1, hF.2.2.2.2.2.2.2.2.2.2.2.2.1, hF.2.2.2.2.2.2.2.2.2.2.2.2.2.1, hF.2.2.2.2.2.2.2.2.2.2.2.2.2.2.1, hF.2.2.2.2.2.2.2.2.2.2.2.2.2.2.2.1, hF.2.2.2.2.2.2.2.2.2.2.2.2.2.2.2.2⟩, hW⟩
                refine StepsI.cons rfl ?_ ?_
                · rintro L zA v8 ⟨zB, zS, qa0, qc0, rfl, rfl, hF, hW⟩ hL hm K hK
                  have hb9 : zB 9 = false := by simpa using hL
                  have hb4 : zB 4 = true := by cases e : zB 4 with | false => (exfalso; revert hm; simp [metB, Region.binds, e]) | true => rfl
                  have hb8 : zB 8 = true := by cases e : zB 8 with | false => (exfalso; revert hm; simp [metB, Region.binds, e]) | true => rfl
                  have e4 : zS 141 = .bool false := hF.2.2.2.2.1 hb4
                  have e8 : zS 145 = .bool false := hF.2.2.2.2.2.2.2.2.1 hb8
                  clear hL hm
                  simp only [puts, Act.put, List.setIfInBounds_toArray, List.set_cons_zero, List.set_cons_succ]
                  simp only [e4, e8]
                  go_simp
                  exact hK.out _ _ ⟨fun zj => if zj = 8 then true else if zj = 4 then true else if zj = 9 then true else zB zj, fun zd => if zd = 146 then .bool false else if zd = 145 then .bool false else if zd = 141 then .bool false else zS zd, qa0, qc0, by simp [hb4, hb8], by kernel_rfl, ⟨hF.1, hF.2.1, hF.2.2.1, hF.2.2.2.1, fun _ => rfl, hF.2.2.2.2.2.1, hF.2.2.2.2.2.2.1, hF.2.2.2.2.2.2.2.1, fun _ => rfl, fun _ => rfl, hF.2.2.2.2.2.2.2.2.2.2.1, hF.2.2.2.2.2.2.2.2.2.2.2.1, hF.2.2.2.2.2.2.2.2.2.2.2.2.1, hF.2.2.2.2.2.2.2.2.2.2.2.2.2.1, hF.2.2.2.2.2.2.2.2.2.2.2.2.2.2.1, hF.2.2.2.2.2.2.2.2.2.2.2.2.2.2.2.1, hF.2.2.2.2.2.2.2.2.2.2.2.2.2.2.2.2⟩, hW⟩
                refine StepsI.cons rfl ?_ ?_
                · rintro L zA v8 ⟨zB, zS, qa0, qc0, rfl, rfl, hF, hW⟩ hL hm K hK
                  have hb10 : zB 10 = false := by simpa using hL
                  have hb9 : zB 9 = true := by cases e : zB 9 with | false => (exfalso; revert hm; simp [metB, Region.binds, e]) | true => rfl
                  have e9 : zS 146 = .bool false := hF.2.2.2.2.2.2.2.2.2.1 hb9
                  clear hL hm
                  simp only [puts, Act.put, List.setIfInBounds_toArray, List.set_cons_zero, List.set_cons_succ]
                  simp only [e9]
                  go_simp
                  exact hK.out _ _ ⟨fun zj => if zj = 9 then true else if zj = 10 then true else zB zj, fun zd => if zd = 147 then .bool false else if zd = 146 then .bool false else zS zd, qa0, qc0, by simp [hb9], by kernel_rfl, ⟨hF.1, hF.2.1, hF.2.2.1, hF.2.2.2.1, hF.2.2.2.2.1, hF.2.2.2.2.2.1, hF.2.2.2.2.2.2.1, hF.2.2.2.2.2.2.2.1, hF.2.2.2.2.2.2.2.2.1, fun _ => rfl, fun _ => rfl, hF.2.2.2.2.2.2.2.2.2.2.2.1, hF.2.2.2.2.2.2.2.2.2.2.2.2.1, hF.2.2.2.2.2.2.2.2.2.2.2.2.2.1, hF.2.2.2.2.2.2.2.2.2.2.2.2.2.2.1, hF.2.2.2.2.2.2.2.2.2.2.2.2.2.2.2.1, hF.2.2.2.2.2.2.2.2.2.2.2.2.2.2.2.2⟩, hW⟩
                refine StepsI.cons rfl ?_ ?_
                · rintro L zA v8 ⟨zB, zS, qa0, qc0, rfl, rfl, hF, hW⟩ hL hm K hK
                  have hb11 : zB 11 = false := by simpa using hL
                  have hb10 : zB 10 = true := by cases e : zB 10 with | false => (exfalso; revert hm; simp [metB, Region.binds, e]) | true => rfl
                  have e10 : zS 147 = .bool false := hF.2.2.2.2.2.2.2.2.2.2.1 hb10
                  clear hL hm
                  simp only [puts, Act.put, List.setIfInBounds_toArray, List.set_cons_zero, List.set_cons_succ]
                  simp only [e10]
                  obtain ⟨k0, k1⟩ := hX9 _ hW.1
                  go_simp
                  exact hK.out _ _ ⟨fun zj => if zj = 10 then true else if zj = 11 then true else zB zj, fun zd => if zd = 148 then .agg #[.int .i64 zx, .slice aX lx.length cX] else if zd = 147 then .bool false else zS zd, qa0, qc0, by simp [hb10], by kernel_rfl, ⟨hF.1, hF.2.1, hF.2.2.1, hF.2.2.2.1, hF.2.2.2.2.1, hF.2.2.2.2.2.1, hF.2.2.2.2.2.2.1, hF.2.2.2.2.2.2.2.1, hF.2.2.2.2.2.2.2.2.1, hF.2.2.2.2.2.2.2.2.2.1, fun _ => rfl, fun _ => rfl, hF.2.2.2.2.2.2.2.2.2.2.2.2.1, hF.2.2.2.2.2.2.2.2.2.2.2.2.2.1, hF.2.2.2.2.2.2.2.2.2.2.2.2.2.2.1, hF.2.2.2.2.2.2.2.2.2.2.2.2.2.2.2.1, hF.2.2.2.2.2.2.2.2.2.2.2.2.2.2.2.2⟩, hW⟩
                refine StepsI.cons rfl ?_ ?_
                · rintro L zA v8 ⟨zB, zS, qa0, qc0, rfl, rfl, hF, hW⟩ hL hm K hK
                  have hb12 : zB 12 = false := by simpa using hL
                  have hb10 : zB 10 = true := by cases e : zB 10 with | false => (exfalso; revert hm; simp [metB, Region.binds, e]) | true => rfl
                  have e10 : zS 147 = .bool false := hF.2.2.2.2.2.2.2.2.2.2.1 hb10
                  clear hL hm
                  simp only [puts, Act.put, List.setIfInBounds_toArray, List.set_cons_zero, List.set_cons_succ]
                  simp only [e10]
                  obtain ⟨k0, k1⟩ := hB9 _ hW.1
                  go_simp
                  exact hK.out _ _ ⟨fun zj => if zj = 10 then true else if zj = 12 then true else zB zj, fun zd => if zd = 149 then .agg #[.int .i64 (q : Int), .slice ao' l'.length cp'] else if zd = 147 then .bool false else zS zd, qa0, qc0, by simp [hb10], by kernel_rfl, ⟨hF.1, hF.2.1, hF.2.2.1, hF.2.2.2.1, hF.2.2.2.2.1, hF.2.2.2.2.2.1, hF.2.2.2.2.2.2.1, hF.2.2.2.2.2.2.2.1, hF.2.2.2.2.2.2.2.2.1, hF.2.2.2.2.2.2.2.2.2.1, fun _ => rfl, hF.2.2.2.2.2.2.2.2.2.2.2.1, fun _ => rfl, hF.2.2.2.2.2.2.2.2.2.2.2.2.2.1, hF.2.2.2.2.2.2.2.2.2.2.2.2.2.2.1, hF.2.2.2.2.2.2.2.2.2.2.2.2.2.2.2.1, hF.2.2.2.2.2.2.2.2.2.2.2.2.2.2.2.2⟩, hW⟩
                refine StepsI.cons rfl ?_ ?_
                · rintro L zA v8 ⟨zB, zS, qa0, qc0, rfl, rfl, hF, hW⟩ hL hm K hK
                  have hb13 : zB 13 = false := by simpa using hL
                  have hb10 : zB 10 = true := by cases e : zB 10 with | false => (exfalso; revert hm; simp [metB, Region.binds, e]) | true => rfl
                  have hb12 : zB 12 = true := by cases e : zB 12 with | false => (exfalso; revert hm; simp [metB, Region.binds, e]) | true => rfl
                  have e10 : zS 147 = .bool false := hF.2.2.2.2.2.2.2.2.2.2.1 hb10
                  have e12 : zS 149 = .agg #[.int .i64 (q : Int), .slice ao' l'.length cp'] := hF.2.2.2.2.2.2.2.2.2.2.2.2.1 hb12
                  clear hL hm
                  rw [hb13] at hW
                  simp only [puts, Act.put, List.setIfInBounds_toArray, List.set_cons_zero, List.set_cons_succ]
                  simp only [e10, e12]
                  go_simp
                  refine (C12.out _ (LB.out.below hW.1)).mono ?_
                  rintro e v82 ⟨qa9, qc9, rfl, hO2, hb⟩
                  go_wp2_with fail
                  exact hK.out _ _ ⟨fun zj => if zj = 12 then true else if zj = 10 then true else if zj = 13 then true else zB zj, fun zd => if zd = 150 then .agg #[.int .i64 zx, .slice qa9 lx.length qc9] else if zd = 149 then .agg #[.int .i64 (q : Int), .slice ao' l'.length cp'] else if zd = 147 then .bool false else zS zd, qa9, qc9, by simp [hb10, hb12], by kernel_rfl, ⟨hF.1, hF.2.1, hF.2.2.1, hF.2.2.2.1, hF.2.2.2.2.1, hF.2.2.2.2.2.1, hF.2.2.2.2.2.2.1, hF.2.2.2.2.2.2.2.1, hF.2.2.2.2.2.2.2.2.1, hF.2.2.2.2.2.2.2.2.2.1, fun _ => rfl, hF.2.2.2.2.2.2.2.2.2.2.2.1, fun _ => rfl, fun _ => rfl, hF.2.2.2.2.2.2.2.2.2.2.2.2.2.2.1, hF.2.2.2.2.2.2.2.2.2.2.2.2.2.2.2.1, hF.2.2.2.2.2.2.2.2.2.2.2.2.2.2.2.2⟩, ⟨below_step hW.1 hb, fun _ => hO2.at⟩⟩
                refine StepsI.cons rfl ?_ ?_
                · rintro L zA v8 ⟨zB, zS, qa0, qc0, rfl, rfl, hF, hW⟩ hL hm K hK
                  have hb14 : zB 14 = false := by simpa using hL
                  have hb10 : zB 10 = true := by cases e : zB 10 with | false => (exfalso; revert hm; simp [metB, Region.binds, e]) | true => rfl
                  have hb11 : zB 11 = true := by cases e : zB 11 with | false => (exfalso; revert hm; simp [metB, Region.binds, e]) | true => rfl
                  have hb13 : zB 13 = true := by cases e : zB 13 with | false => (exfalso; revert hm; simp [metB, Region.binds, e]) | true => rfl
                  have e10 : zS 147 = .bool false := hF.2.2.2.2.2.2.2.2.2.2.1 hb10
                  have e11 : zS 148 = .agg #[.int .i64 zx, .slice aX lx.length cX] := hF.2.2.2.2.2.2.2.2.2.2.2.1 hb11
                  have e13 : zS 150 = .agg #[.int .i64 zx, .slice qa0 lx.length qc0] := hF.2.2.2.2.2.2.2.2.2.2.2.2.2.1 hb13
                  clear hL hm
                  rw [hb13] at hW
                  simp only [puts, Act.put, List.setIfInBounds_toArray, List.set_cons_zero, List.set_cons_succ]
                  simp only [e10, e11, e13]
                  go_simp
                  refine (sameFacts_ok zx lx _ _ _ _ _ HLX.out (LX.out.below hW.1) (hW.2 (by first | rfl | trivial))).mono ?_
                  rintro e v82 ⟨rfl, hb⟩
                  go_wp2_with fail
                  exact hK.out _ _ ⟨fun zj => if zj = 13 then true else if zj = 11 then true else if zj = 10 then true else if zj = 14 then true else zB zj, fun zd => if zd = 151 then .bool true else if zd = 150 then .agg #[.int .i64 zx, .slice qa0 lx.length qc0] else if zd = 148 then .agg #[.int .i64 zx, .slice aX lx.length cX] else if zd = 147 then .bool false else zS zd, qa0, qc0, by simp [hb10, hb11, hb13], by kernel_rfl, ⟨hF.1, hF.2.1, hF.2.2.1, hF.2.2.2.1, hF.2.2.2.2.1, hF.2.2.2.2.2.1, hF.2.2.2.2.2.2.1, hF.2.2.2.2.2.2.2.1, hF.2.2.2.2.2.2.2.2.1, hF.2.2.2.2.2.2.2.2.2.1, fun _ => rfl, fun _ => rfl, hF.2.2.2.2.2.2.2.2.2.2.2.2.1, fun _ => rfl, fun _ => rfl, hF.2.2.2.2.2.2.2.2.2.2.2.2.2.2.2.1, hF.2.2.2.2.2.2.2.2.2.2.2.2.2.2.2.2⟩, ⟨below_step hW.1 hb, fun _ => (hW.2 (by first | rfl | trivial)).below hb⟩⟩
                refine StepsI.cons rfl ?_ ?_
                · rintro L zA v8 ⟨zB, zS, qa0, qc0, rfl, rfl, hF, hW⟩ hL hm K hK
                  have hb15 : zB 15 = false := by simpa using hL
                  have hb10 : zB 10 = true := by cases e : zB 10 with | false => (exfalso; revert hm; simp [metB, Region.binds, e]) | true => rfl
                  have hb14 : zB 14 = true := by cases e : zB 14 with | false => (exfalso; revert hm; simp [metB, Region.binds, e]) | true => rfl
                  have e10 : zS 147 = .bool false := hF.2.2.2.2.2.2.2.2.2.2.1 hb10
                  have e14 : zS 151 = .bool true := hF.2.2.2.2.2.2.2.2.2.2.2.2.2.2.1 hb14
                  clear hL hm
                  simp only [puts, Act.put, List.setIfInBounds_toArray, List.set_cons_zero, List.set_cons_succ]
                  simp only [e10, e14]
                  go_simp
                  exact hK.out _ _ ⟨fun zj => if zj = 14 then true else if zj = 10 then true else if zj = 15 then true else zB zj, fun zd => if zd = 152 then .bool true else if zd = 151 then .bool true else if zd = 147 then .bool false else zS zd, qa0, qc0, by simp [hb10, hb14], by kernel_rfl, ⟨hF.1, hF.2.1, hF.2.2.1, hF.2.2.2.1, hF.2.2.2.2.1, hF.2.2.2.2.2.1, hF.2.2.2.2.2.2.1, hF.2.2.2.2.2.2.2.1, hF.2.2.2.2.2.2.2.2.1, hF.2.2.2.2.2.2.2.2.2.1, fun _ => rfl, hF.2.2.2.2.2.2.2.2.2.2.2.1, hF.2.2.2.2.2.2.2.2.2.2.2.2.1, hF.2.2.2.2.2.2.2.2.2.2.2.2.2.1, fun _ => rfl, fun _ => rfl, hF.2.2.2.2.2.2.2.2.2.2.2.2.2.2.2.2⟩, hW⟩
                refine StepsI.cons rfl ?_ ?_
                · rintro L zA v8 ⟨zB, zS, qa0, qc0, rfl, rfl, hF, hW⟩ hL hm K hK
                  have hb16 : zB 16 = false := by simpa using hL
                  have hb15 : zB 15 = true := by cases e : zB 15 with | false => (exfalso; revert hm; simp [metB, Region.binds, e]) | true => rfl
                  have e15 : zS 152 = .bool true := hF.2.2.2.2.2.2.2.2.2.2.2.2.2.2.2.1 hb15
                  clear hL hm
                  simp only [puts, Act.put, List.setIfInBounds_toArray, List.set_cons_zero, List.set_cons_succ]
                  simp only [e15]
                  go_simp
                  exact hK.out _ _ ⟨fun zj => if zj = 15 then true else if zj = 16 then true else zB zj, fun zd => if zd = 4 then .bool true else if zd = 152 then .bool true else zS zd, qa0, qc0, by simp [hb15], by kernel_rfl, ⟨hF.1, hF.2.1, hF.2.2.1, hF.2.2.2.1, hF.2.2.2.2.1, hF.2.2.2.2.2.1, hF.2.2.2.2.2.2.1, hF.2.2.2.2.2.2.2.1, hF.2.2.2.2.2.2.2.2.1, hF.2.2.2.2.2.2.2.2.2.1, hF.2.2.2.2.2.2.2.2.2.2.1, hF.2.2.2.2.2.2.2.2.2.2.2.1, hF.2.2.2.2.2.2.2.2.2.2.2.2.1, hF.2.2.2.2.2.2.2.2.2.2.2.2.2.1, hF.2.2.2.2.2.2.2.2.2.2.2.2.2.2.1, fun _ => rfl, fun _ => rfl⟩, hW⟩
                exact StepsI.nil (by kernel_rfl)
              · rintro L zA v8 ⟨zB, zS, qa0, qc0, rfl, rfl, hF, hW⟩ hr
                have hu := all_up (by kernel_rfl) (N := 17) (by kernel_rfl) hr
                have hb0 : zB 0 = true := by simpa using hu 0 (by decide)
                have hb1 : zB 1 = true := by simpa using hu 1 (by decide)
                have hb2 : zB 2 = true := by simpa using hu 2 (by decide)
                have hb3 : zB 3 = true := by simpa using hu 3 (by decide)
                have hb4 : zB 4 = true := by simpa using hu 4 (by decide)
                have hb5 : zB 5 = true := by simpa using hu 5 (by decide)
                have hb6 : zB 6 = true := by simpa using hu 6 (by decide)
                have hb7 : zB 7 = true := by simpa using hu 7 (by decide)
                have hb8 : zB 8 = true := by simpa using hu 8 (by decide)
                have hb9 : zB 9 = true := by simpa using hu 9 (by decide)
                have hb10 : zB 10 = true := by simpa using hu 10 (by decide)
                have hb11 : zB 11 = true := by simpa using hu 11 (by decide)
                have hb12 : zB 12 = true := by simpa using hu 12 (by decide)
                have hb13 : zB 13 = true := by simpa using hu 13 (by decide)
                have hb14 : zB 14 = true := by simpa using hu 14 (by decide)
                have hb15 : zB 15 = true := by simpa using hu 15 (by decide)
                have hb16 : zB 16 = true := by simpa using hu 16 (by decide)
                have e0 : zS 137 = .agg #[.int .i64 (q : Int), .slice ao l.length cp] := hF.1 hb0
                have e1 : zS 138 = .agg #[.int .i64 (q : Int), .slice ao' l'.length cp'] := hF.2.1 hb1
                have e2 : zS 139 = .bool true := hF.2.2.1 hb2
                have e3 : zS 140 = .bool false := hF.2.2.2.1 hb3
                have e4 : zS 141 = .bool false := hF.2.2.2.2.1 hb4
                have e5 : zS 142 = .agg #[.int .i64 (q : Int), .slice ao' l'.length cp'] := hF.2.2.2.2.2.1 hb5
                have e6 : zS 143 = .agg #[.int .i64 (q : Int), .slice ao l.length cp] := hF.2.2.2.2.2.2.1 hb6
                have e7 : zS 144 = .bool true := hF.2.2.2.2.2.2.2.1 hb7
                have e8 : zS 145 = .bool false := hF.2.2.2.2.2.2.2.2.1 hb8
                have e9 : zS 146 = .bool false := hF.2.2.2.2.2.2.2.2.2.1 hb9
                have e10 : zS 147 = .bool false := hF.2.2.2.2.2.2.2.2.2.2.1 hb10
                have e11 : zS 148 = .agg #[.int .i64 zx, .slice aX lx.length cX] := hF.2.2.2.2.2.2.2.2.2.2.2.1 hb11
                have e12 : zS 149 = .agg #[.int .i64 (q : Int), .slice ao' l'.length cp'] := hF.2.2.2.2.2.2.2.2.2.2.2.2.1 hb12
                have e13 : zS 150 = .agg #[.int .i64 zx, .slice qa0 lx.length qc0] := hF.2.2.2.2.2.2.2.2.2.2.2.2.2.1 hb13
                have e14 : zS 151 = .bool true := hF.2.2.2.2.2.2.2.2.2.2.2.2.2.2.1 hb14
                have e15 : zS 152 = .bool true := hF.2.2.2.2.2.2.2.2.2.2.2.2.2.2.2.1 hb15
                have e16 : zS 4 = .bool true := hF.2.2.2.2.2.2.2.2.2.2.2.2.2.2.2.2 hb16
                rw [hb13] at hW
                clear hu hr hF
                simp only [puts, Act.put, List.setIfInBounds_toArray, List.set_cons_zero, List.set_cons_succ]
                simp only [e0, e1, e2, e3, e4, e5, e6, e7, e8, e9, e10, e11, e12, e13, e14, e15, e16]
                clear e0 e1 e2 e3 e4 e5 e6 e7 e8 e9 e10 e11 e12 e13 e14 e15 e16
                clear hb0 hb1 hb2 hb3 hb4 hb5 hb6 hb7 hb8 hb9 hb10 hb11 hb12 hb13 hb14 hb15 hb16
                clear zB zS
                have hb2 := hW.1
                have BE := mkHid (below_step BE.out hb2)
                clear hb2 hW
                go_wp2
                go_ret
                exact ⟨by first | rfl | (simp; done), BE.out⟩
theorem open_bytes {H : Type} {enc : TypeId × Value → H} {W : World} {a : Option Addr} {len cap : Nat} {x : DataW H} {p : List MemPlace} (h : DataW.Trod enc Try.prog W 0 (fun _ => true) true 22 (.slice a len cap) x p) : Bytes W W.heap.size a len ∧ len ≤ maxLen := by
  obtain ⟨fuel, hf⟩ := h
  rcases open_ints Try.underlying22 Try.underlying5 (by kernel_rfl) hf with ⟨hcs, _⟩ | ⟨ad, l, c, zs, hcs, _, hl, hm, hz, _, hcell, hwz⟩
  · simp [Value.cells] at hcs
    exact ⟨.inl hcs.2.1, by rw [hcs.2.1]; exact Nat.zero_le _⟩
  · simp [Value.cells] at hcs
    obtain ⟨rfl, rfl, rfl⟩ := hcs
    refine ⟨?_, by omega⟩
    by_cases h0 : len = 0
    · exact .inl h0
    · have hzl : zs.length = cap := by simpa using hz
      obtain ⟨b, off, rfl, hc⟩ := ints_at hcell (by omega)
      refine .inr ⟨b, off, rfl, World.block_lt_of_cell? W _ (hc 0 (by omega)), fun i hi => ?_⟩
      have hmem : zs.getD i 0 ∈ zs := by
        rw [List.getD_eq_getElem?_getD, List.getElem?_eq_getElem (by omega)]
        exact List.getElem_mem _
      have hw := bounds_u8 (hwz _ hmem)
      exact ⟨_, hw.1, hw.2, hc i (by omega)⟩

set_option maxRecDepth 100000 in
theorem law_lifted (os : Os) (started : os.Started) (H : Type) (enc : TypeId × Value → H) :
    ReturnsInHanded {} Try.checked os 5 .any (Rows.fnFactsOrderSpec.pre6 enc Try.prog Try.f5 Rows.fnFactsOrderRow.domain false) (Rows.fnFactsOrderSpec.post enc Try.prog Try.f5 false true false false) := by
  refine returnsInHanded_of_change (C := Try.checked) Try.own started (by kernel_rfl) Try.func5
    (ChangeSpec.witness6 (enc := enc) (C := Try.checked) false ⟨#[], #[.slice none 0 0, .slice none 0 0], []⟩ 8 (by kernel_rfl) (by kernel_rfl) (by kernel_rfl) (by kernel_rfl)) ?_
  intro W base args ds gs before hval0 hW hcnd _
  have hval : ∀ (j : Nat) t v, Try.f5.params[j]? = some t → args[j]? = some v → Value.okWide Try.prog W .any base t v := hval0
  have hW' := hW
  obtain ⟨p, q, hA0, hV, rfl, hfz, hnd⟩ := hW
  have hA : DataW.TrodAll enc Try.prog W 0 (fun _ => true) true Try.f5.params.toList args.toList ds p := hA0
  rw [Try.params5] at hA hval
  obtain ⟨v0, vs0, d0, ds0, p0, q0, hargs, rfl, rfl, h0, r0⟩ := trodAll_cons hA
  obtain ⟨v1, vs1, d1, ds1, p1, q1, rfl, rfl, rfl, h1, r1⟩ := trodAll_cons r0
  obtain ⟨rfl, rfl, rfl⟩ := trodAll_nil r1
  obtain rfl : args = #[v0, v1] := by cases args; simp_all
  obtain ⟨rfl, rfl⟩ := trodVars_none hV
  obtain ⟨a0, len0, cap0, rfl⟩ := okWide_slice Try.underlying22 (hval 0 22 v0 rfl rfl)
  obtain ⟨a1, len1, cap1, rfl⟩ := okWide_slice Try.underlying22 (hval 1 22 v1 rfl rfl)
  have lt0 : ∀ x ∈ p0, x.block < W.heap.size := by obtain ⟨m, hm⟩ := h0; exact DataW.trod_lt m _ _ _ hm
  have lt1 : ∀ x ∈ p1, x.block < W.heap.size := by obtain ⟨m, hm⟩ := h1; exact DataW.trod_lt m _ _ _ hm
  clear hA0 hval0
  refine (law_walk a0 a1 len0 cap0 len1 cap1 W (open_bytes h0).2 (open_bytes h1).2 (open_bytes h0).1 (open_bytes h1).1).mono fun e W' ⟨he, bel⟩ => ?_
  subst he
  exact ⟨_, rfl, _, _, _, [], _, [], hW', trodAll_mk1 (shut_bool Try.underlying4 _), (trodAll_cons_mk (Below.trod Try.laidOut (by kernel_rfl) (of_decide_eq_true (by kernel_rfl)) h0 bel lt0) (trodAll_cons_mk (Below.trod Try.laidOut (by kernel_rfl) (of_decide_eq_true (by kernel_rfl)) h1 bel lt1) trodAll_mk0)), rfl, bel.frame _, fun h => by cases h⟩

theorem law_holds : Rows.FnFactsOrderSaid :=
  OpenClaim.holds_of_wide 5 Try.f5 rfl rfl rfl rfl rfl rfl rfl ⟨rfl, rfl, rfl, rfl, rfl⟩ rfl rfl rfl rfl rfl (by kernel_rfl) Try.func5 (by kernel_rfl)
    (of_decide_eq_true (by kernel_rfl)) (by unfold Func.isWrapper; first | (rw [if_pos (by decide +kernel)]; kernel_rfl) | (rw [if_neg (by decide +kernel)]; exact ⟨rfl, rfl⟩))
    (fun os started H enc _ => law_lifted os started H enc)

#print axioms law_holds
end Go.Proofs.Ytgclngofigffdaa
