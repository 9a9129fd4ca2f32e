/-
  CONTRACTS of the specification's l07None, l07Add, FactsAdd.
-/
import Derived.Test.YtmaejdomlggopaaAi
import Derived.Test.YtmaejdomlggopaaDs
namespace Go.Proofs.Ytmaejdomlggopaa
open Go.RowKit

def noN (z : Int) (n : Nat) : Bool := decide (z = 0 ∧ n = 0)
set_option maxHeartbeats 400000 in
theorem sNoF_any (z : Int) (a : Option Addr) (n c : Nat) (w : World) : Calls Try.prog 52 #[.agg #[.int .i64 z, .slice a n c]] w fun e w' => e = .returned (.bool (noN z n)) ∧ Below w.heap.size w w' := by
  by_cases h1 : z = 0
  · have hb1 : (z == 0) = true := by rw [beq_iff_eq]; exact h1
    by_cases h2 : n = 0
    · have hb2 : ((n : Int) == 0) = true := by rw [beq_iff_eq]; omega
      have e := mkHid (show noN z n = true from decide_eq_true ⟨h1, h2⟩)
      clear h1 h2
      go_enter Try.func52, Try.ntmps52
      go_wp2
      go_ret
      exact ⟨ret_bool e.out.symm, (Below.refl _ _).alloc (Nat.le_refl _) _⟩
    · have hb2 : ((n : Int) == 0) = false := by rw [beq_eq_false_iff_ne]; omega
      have e := mkHid (show noN z n = false from decide_eq_false fun h => h2 h.2)
      clear h1 h2
      go_enter Try.func52, Try.ntmps52
      go_wp2
      go_ret
      exact ⟨ret_bool e.out.symm, (Below.refl _ _).alloc (Nat.le_refl _) _⟩
  · have hb1 : (z == 0) = false := by rw [beq_eq_false_iff_ne]; exact h1
    have e := mkHid (show noN z n = false from decide_eq_false fun h => h1 h.1)
    clear h1
    go_enter Try.func52, Try.ntmps52
    go_wp2
    go_ret
    exact ⟨ret_bool e.out.symm, (Below.refl _ _).alloc (Nat.le_refl _) _⟩
set_option maxRecDepth 100000 in
set_option maxHeartbeats 800000 in
theorem sAddl_none (a : Option Addr) (c0 : Nat) (i j c : Int) (w : World) : Calls Try.prog 70 #[.agg #[.int .i64 0, .slice a 0 c0], .int .i64 i, .int .i64 j, .int .i64 c] w fun e w' => Gives w w' e 0 [] := by
  have B0 := mkHid (((Below.refl w.heap.size w).alloc (Nat.le_refl _) (.cells #[.int .i64 0, .slice a 0 c0] 27)).alloc (by simp) (.cells #[.int .i64 0, .slice none 0 0] 27))
  have Z0 := mkHid (Fz.new (w.alloc (.cells #[.int .i64 0, .slice a 0 c0] 27)))
  have hno : noN 0 0 = true := rfl
  by_cases hc : c < -2000000
  · obtain ⟨⟨z0, z1⟩, z2, z3⟩ := Z0.out
    go_enter Try.func70, Try.ntmps70
    go_wp2
    exact bodyPost_ret (v := .agg #[.int .i64 0, .slice none 0 0]) (by simp [results, Try.results70, go_sem]) rfl ⟨none, 0, rfl, OwnI.nil _ _, B0.out⟩
  · go_enter Try.func70, Try.ntmps70
    go_wp2_with fail
    refine (sNoF_any 0 a 0 c0 _).mono ?_
    rintro e w1 ⟨rfl, hb1⟩
    have B1 := mkHid (below_step B0.out hb1)
    have Z1 : Hid (Fz w1 (w.heap.size + 1)) := mkHid (by have := Z0.out.below hb1; simpa using this)
    rw [hno]
    obtain ⟨⟨z0, z1⟩, z2, z3⟩ := Z1.out
    clear hb1
    go_wp2
    exact bodyPost_ret (v := .agg #[.int .i64 0, .slice none 0 0]) (by simp [results, Try.results70, go_sem, z0, z1]) rfl ⟨none, 0, rfl, OwnI.nil _ _, none_shut B1.out (Nat.le_succ _) _ _⟩
set_option maxRecDepth 100000 in
set_option maxHeartbeats 1600000 in
theorem sAddl_some (n : Nat) (f : Tab) (h1 : 1 ≤ n) (h2 : n ≤ 13) (hbd : Bd n f 10000000) (a : Option Addr) (c0 i j : Nat) (hi : i < n) (hj : j < n) (c : Int) (w : World) (hA : IntsAt w a (mk n f)) : Calls Try.prog 70 #[.agg #[.int .i64 n, .slice a (mk n f).length c0], .int .i64 i, .int .i64 j, .int .i64 c] w fun e w' => Gives w w' e (outZ (addO n i j c (some f)) n) (outL (addO n i j c (some f)) n) := by
  obtain ⟨i0, hi0, hz⟩ := Option.map_eq_some_iff.1 Try.info3
  simp only [Prod.mk.injEq] at hz
  obtain ⟨hz0, hz1, hz2⟩ := hz
  have HI := mkHid (show Try.prog.info? 3 = some i0 ∧ i0.zero = some (.int .i64 0) ∧ i0.size = 1 ∧ i0.bytes = 8 from ⟨hi0, hz0, hz1, hz2⟩)
  have HL := mkHid hA
  have HSP : Hid (∀ (c' : Int), addO n i j c (some f) = (if c < -2000000 then none else cloO n (setT f i j c))) := mkHid fun _ => rfl
  have hqn := mk_len n f
  have hq1 := sq_le h2
  have hq0 := sq_pos h1
  obtain ⟨q, hq⟩ : ∃ q, n * n = q := ⟨_, rfl⟩
  have HXX : Hid ((mk n f).getD (i * n + j) 0 = f i j) := mkHid (mk_V n f i j hi hj)
  have HPP : Hid (∀ x, (mk n f).set (i * n + j) x = mk n (fun a b => if a = i ∧ b = j then x else f a b)) := mkHid fun x => mk_set f hi hj x
  have HCL : Hid (¬ c < -2000000 → ∀ (a : Option Addr) (c1 : Nat) (v : World), IntsAt v a (mk n (setT f i j c)) → Calls Try.prog 59 #[.int .i64 n, .slice a (mk n (setT f i j c)).length c1] v fun e w' => Gives v w' e (outZ (cloO n (setT f i j c)) n) (outL (cloO n (setT f i j c)) n)) := mkHid fun hc a c1 v hv => sCloseD n (setT f i j c) h1 h2 (setT_bd hbd hi hj hc) a c1 v hv
  have HEQ : Hid (∀ (h : c < f i j), mk n (setT f i j c) = (mk n f).set (i * n + j) c) := mkHid fun h => by rw [HPP.out]; exact mk_congr fun a b _ _ => by unfold setT; rw [Int.min_eq_right (Int.le_of_lt h)]
  have HEN : Hid (∀ (h : ¬ c < f i j), mk n (setT f i j c) = mk n f) := mkHid fun h => mk_congr fun a b _ _ => by
    unfold setT
    split
    · rename_i e; obtain ⟨rfl, rfl⟩ := e; exact Int.min_eq_left (by omega)
    · rfl
  obtain ⟨L, hL⟩ : ∃ L, mk n f = L := ⟨_, rfl⟩
  rw [hL] at HL HXX HPP HEQ HEN hqn
  rw [hL]
  rw [hq] at hqn hq1 hq0
  obtain ⟨b, o, rfl, hat⟩ : ∃ b o, a = some ⟨b, o, none⟩ ∧ ∀ (i : Nat) (x : Int), L[i]? = some x → w.cell? ⟨b, o + i, none⟩ = some (.int .i64 x) := by
    rcases HL.out with h | h
    · subst h; simp at hqn; omega
    · exact h
  have HSRC : Hid (∀ v, Below w.heap.size w v → ∀ j u, (ints L)[j]? = some u → v.cell? ((⟨b, o, none⟩ : Addr).add j) = some u) := mkHid fun v hv j u hu => by
    rw [ints_get] at hu
    obtain ⟨x, hx, rfl⟩ := Option.map_eq_some_iff.1 hu
    have h1 := hat j x hx
    rw [Addr.add_mid]
    exact (hv.cell (p := ⟨b, o + j, none⟩) (World.block_lt_of_cell? w _ h1)).trans h1
  have HQN := mkHid hqn
  rw [hqn]
  have B0 := mkHid (((Below.refl w.heap.size w).alloc (Nat.le_refl _) (.cells #[.int .i64 n, .slice (some ⟨b, o, none⟩) q c0] 27)).alloc (by simp) (.cells #[.int .i64 0, .slice none 0 0] 27))
  have Z0 := mkHid (Fz.new (w.alloc (.cells #[.int .i64 n, .slice (some ⟨b, o, none⟩) q c0] 27)))
  have T0 := mkHid ((Fc.new w n (some ⟨b, o, none⟩) q c0 27).alloc (.cells #[.int .i64 0, .slice none 0 0] 27))
  obtain ⟨m, hm⟩ : ∃ m, i * n = m := ⟨_, rfl⟩
  rw [hm] at HXX HPP HEQ
  have hmq : m + n ≤ q := by rw [← hm, ← hq, show i * n + n = (i + 1) * n by rw [Nat.add_mul]; omega]; exact Nat.mul_le_mul_right n hi
  have hwm : IntKind.i64.wrap ((i : Int) * (n : Int)) = (m : Int) := by rw [show (i : Int) * (n : Int) = ((i * n : Nat) : Int) by simp, hm]; exact IntWalk.i64_in _ (by omega)
  have hno : noN (n : Int) q = false := decide_eq_false fun h => by omega
  obtain ⟨x, hx⟩ : ∃ x, f i j = x := ⟨_, rfl⟩
  rw [hx] at HXX HEQ HEN
  clear hi0 hz0 hz1 hz2 hA hbd hL hq hat hqn hm hx
  by_cases hc : c < -2000000
  · have e1 : Hid (addO n i j c (some f) = none) := mkHid (by rw [HSP.out 0, if_pos hc])
    go_enter Try.func70, Try.ntmps70
    go_wp2
    refine bodyPost_ret (v := .agg #[.int .i64 0, .slice none 0 0]) (by simp [results, Try.results70, go_sem]) rfl ?_
    rw [e1.out]
    exact ⟨none, 0, rfl, OwnI.nil _ _, B0.out⟩
  · have e1 : Hid (addO n i j c (some f) = cloO n (setT f i j c)) := mkHid (by rw [HSP.out 0, if_neg hc])
    obtain ⟨M, hM⟩ : ∃ M, mk n (setT f i j c) = M := ⟨_, rfl⟩
    have HC2 := mkHid (HCL.out hc)
    rw [hM] at HC2 HEQ HEN
    obtain ⟨R, hR⟩ : ∃ R, cloO n (setT f i j c) = R := ⟨_, rfl⟩
    rw [hR] at HC2 e1
    rw [e1.out]
    have HML : Hid (M.length = q) := mkHid (by
      by_cases h : c < x
      · rw [HEQ.out h, List.length_set]; exact HQN.out
      · rw [HEN.out h]; exact HQN.out)
    clear hM hR HCL
    go_enter Try.func70, Try.ntmps70
    go_wp2_with fail
    refine (sNoF_any n _ q c0 _).mono ?_
    rintro e w1 ⟨rfl, hb1⟩
    rw [hno]
    have B1 := mkHid (below_step B0.out hb1)
    have Z1 : Hid (Fz w1 (w.heap.size + 1)) := mkHid (by have := Z0.out.below hb1; simpa using this)
    have T1 := mkHid (T0.out.below hb1)
    obtain ⟨t0, t1⟩ := T1.out
    have s1 := Z1.out.lt
    have s2 : w.heap.size < w1.heap.size := by omega
    have s3 : w.heap.size ≠ w1.heap.size := by omega
    have E1 : Hid (OwnI (w1.alloc (.cells #[] 3)) w1.heap.size (.slice (some ⟨w1.heap.size, 0, none⟩) 0 0) []) := mkHid (OwnI.fresh (Nat.le_refl _) (heap_alloc_last w1 (.cells #[] 3)))
    have B1a := mkHid (B1.out.alloc B1.out.size (.cells #[] 3))
    clear hb1 B0 Z0 T0
    have a0 : (0 : Int) ≤ (m : Int) + (j : Int) := by omega
    have a1 : (m : Int) + (j : Int) < (q : Int) := by omega
    by_cases hcx : c < x
    · skip
      go_wp2_with (at_builtin; refine wpList_append_lies _ rfl _ _ 22 rfl w1.heap.size 3 i0 (.int .i64 0) 1 8 Try.underlying22 HI.out.1 HI.out.2.1 HI.out.2.2.1 HI.out.2.2.2 rfl (by decide) (.slice (some ⟨w1.heap.size, 0, none⟩) 0 0) 0 [] rfl E1.out ⟨b, o, none⟩ q c0 (ints L) rfl (by rw [ints_len, HQN.out]; omega) (HSRC.out _ B1a.out) (one_cell_ints L) ?c1 ?c2 ?c3 ?c4 _ rfl ?_; rotate_right; intro g cap w2 ho2 hg2 hat2 hlt2; obtain ⟨t2, t3⟩ := (T1.out.alloc _).grown hg2 (some_ne (by show w.heap.size ≠ w1.heap.size; omega)); have ho2' : OwnI w2 w1.heap.size (.slice (some ⟨g, 0, none⟩) q cap) L := (by unfold OwnI; rw [HQN.out]; simpa using ho2); have hcell := ho2'.cell (p := m + j) (by rw [HQN.out]; omega); rw [HXX.out] at hcell; have hfr := ho2'.free (m + j); have hgn : g ≠ w.heap.size := (by have := ho2'.base_le; omega); have hgn2 : w.heap.size ≠ g := (fun e => hgn e.symm))
      case c1 => omega
      case c2 => unfold maxLen; omega
      case c3 => omega
      case c4 => simp
      have B2 := mkHid ((B1.out.alloc B1.out.size (.cells #[] 3)).grown hg2 (by have := B1.out.size; simp; omega) (fun q' hq => by have e : w1.heap.size = q' := Option.some.inj hq; have := B1.out.size; omega))
      have Z2 := mkHid ((Z1.out.alloc (.cells #[] 3)).grown hg2 (some_ne (by show w.heap.size + 1 ≠ w1.heap.size; omega)))
      have O2 := mkHid ho2'
      have hg0 := O2.out.base_le
      have O3 : Hid (OwnI (w2.setCell ⟨g, m + j, none⟩ (.int .i64 c)) w1.heap.size (.slice (some ⟨g, 0, none⟩) q cap) M) := mkHid (by rw [HEQ.out hcx]; exact (O2.out.stored (m + j) c).1)
      have B3 := mkHid (B2.out.grown (O2.out.stored (m + j) c).2 B2.out.size (fun q' hq => by have e : g = q' := Option.some.inj hq; have := B1.out.size; omega))
      have Z3 := mkHid (Z2.out.grown (O2.out.stored (m + j) c).2 (some_ne (by omega)))
      clear ho2 hg2 hat2 hlt2 ho2' hcell hfr t2 t3 hgn hgn2
      obtain ⟨w3, hw3⟩ : ∃ w3, w2.setCell ⟨g, m + j, none⟩ (.int .i64 c) = w3 := ⟨_, rfl⟩
      rw [hw3] at O3 B3 Z3
      rw [hw3]
      clear hw3
      have HC3 := mkHid (HC2.out (some ⟨g, 0, none⟩) cap w3 O3.out.at)
      rw [HML.out] at HC3
      refine HC3.out.mono ?_
      rintro e w6 ⟨ao, cap', rfl, ho, hb6⟩
      obtain ⟨⟨z0, z1⟩, z2, z3⟩ := Z3.out.below hb6
      have HE := mkHid (fun v0 v1 => Gives.shut (b := w.heap.size + 1) B3.out (Nat.le_succ _) Z3.out.lt ho hb6 v0 v1)
      clear hb6 ho
      go_wp2
      exact bodyPost_ret (v := .agg #[.int .i64 (outZ R n), .slice ao (outL R n).length cap']) (by simp [results, Try.results70, go_sem, z0, z1]) rfl ⟨ao, cap', rfl, (HE.out _ _).1, (HE.out _ _).2⟩
    · skip
      go_wp2_with (at_builtin; refine wpList_append_lies _ rfl _ _ 22 rfl w1.heap.size 3 i0 (.int .i64 0) 1 8 Try.underlying22 HI.out.1 HI.out.2.1 HI.out.2.2.1 HI.out.2.2.2 rfl (by decide) (.slice (some ⟨w1.heap.size, 0, none⟩) 0 0) 0 [] rfl E1.out ⟨b, o, none⟩ q c0 (ints L) rfl (by rw [ints_len, HQN.out]; omega) (HSRC.out _ B1a.out) (one_cell_ints L) ?d1 ?d2 ?d3 ?d4 _ rfl ?_; rotate_right; intro g cap w2 ho2 hg2 hat2 hlt2; obtain ⟨t2, t3⟩ := (T1.out.alloc _).grown hg2 (some_ne (by show w.heap.size ≠ w1.heap.size; omega)); have ho2' : OwnI w2 w1.heap.size (.slice (some ⟨g, 0, none⟩) q cap) L := (by unfold OwnI; rw [HQN.out]; simpa using ho2); have hcell := ho2'.cell (p := m + j) (by rw [HQN.out]; omega); rw [HXX.out] at hcell; have hfr := ho2'.free (m + j); have hgn : g ≠ w.heap.size := (by have := ho2'.base_le; omega); have hgn2 : w.heap.size ≠ g := (fun e => hgn e.symm))
      case d1 => omega
      case d2 => unfold maxLen; omega
      case d3 => omega
      case d4 => simp
      have B2 := mkHid ((B1.out.alloc B1.out.size (.cells #[] 3)).grown hg2 (by have := B1.out.size; simp; omega) (fun q' hq => by have e : w1.heap.size = q' := Option.some.inj hq; have := B1.out.size; omega))
      have Z2 := mkHid ((Z1.out.alloc (.cells #[] 3)).grown hg2 (some_ne (by show w.heap.size + 1 ≠ w1.heap.size; omega)))
      have O2 := mkHid ho2'
      have hg0 := O2.out.base_le
      have O3 : Hid (OwnI w2 w1.heap.size (.slice (some ⟨g, 0, none⟩) q cap) M) := mkHid (by rw [HEN.out hcx]; exact O2.out)
      have B3 := B2
      have Z3 := Z2
      clear ho2 hg2 hat2 hlt2 ho2' hcell hfr t2 t3 hgn hgn2
      obtain ⟨w3, hw3⟩ : ∃ w3, w2 = w3 := ⟨_, rfl⟩
      rw [hw3] at O3 B3 Z3
      rw [hw3]
      clear hw3
      have HC3 := mkHid (HC2.out (some ⟨g, 0, none⟩) cap w3 O3.out.at)
      rw [HML.out] at HC3
      refine HC3.out.mono ?_
      rintro e w6 ⟨ao, cap', rfl, ho, hb6⟩
      obtain ⟨⟨z0, z1⟩, z2, z3⟩ := Z3.out.below hb6
      have HE := mkHid (fun v0 v1 => Gives.shut (b := w.heap.size + 1) B3.out (Nat.le_succ _) Z3.out.lt ho hb6 v0 v1)
      clear hb6 ho
      go_wp2
      exact bodyPost_ret (v := .agg #[.int .i64 (outZ R n), .slice ao (outL R n).length cap']) (by simp [results, Try.results70, go_sem, z0, z1]) rfl ⟨ao, cap', rfl, (HE.out _ _).1, (HE.out _ _).2⟩
end Go.Proofs.Ytmaejdomlggopaa
