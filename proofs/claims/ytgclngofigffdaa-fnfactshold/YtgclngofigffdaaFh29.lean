/-
  FnFactsHold holds at every two rows of bytes: no conditions.
-/
import Derived.Test.YtgclngofigffdaaFh20
import Derived.Test.YtgclngofigffdaaFh22
import Derived.Test.YtgclngofigffdaaFh23
import Derived.Test.YtgclngofigffdaaFh24
import Derived.Test.YtgclngofigffdaaFh26
import Derived.Test.YtgclngofigffdaaFh25
import Derived.Test.YtgclngofigffdaaFh27
import Derived.Test.YtgclngofigffdaaFh28
import Derived.ProofKit
import Derived.OpenShut
import Derived.ChangeOld
import Derived.ChangeSlices
import Derived.Laws.OwnMore
namespace Go.Proofs.Ytgclngofigffdaa
open Go.ChangeShapes Go.WideShapes Go.ChangeAt Go.RowKit Go.Joins

theorem met_fineO {n : Nat} {l l' : List Int} (h : okF n l = true) (h' : okF n l' = true) : FineO n (metF n l n l') := by
  have e : metF n l n l' = (some fun a b => min (tab n l a b) (tab n l' a b)).bind (cloO n) := by unfold metF; rw [h, h']; simp
  rw [e]
  refine clo_fineO fun f e => ?_
  cases e
  obtain ⟨m, em, k1, k2, _, _, k3⟩ := ok_of h
  obtain ⟨m', em', _, _, _, _, k4⟩ := ok_of h'
  obtain rfl : n = m := by omega
  obtain rfl : n = m' := by omega
  refine ⟨k1, k2, fun a b ha hb => ?_⟩
  have q1 := k3 a b ha hb
  have q2 := k4 a b ha hb
  show -2000000 ≤ min (tab n l a b) (tab n l' a b) ∧ min (tab n l a b) (tab n l' a b) ≤ capT a b ∧ (a = b → min (tab n l a b) (tab n l' a b) = 0)
  exact ⟨by omega, by omega, fun e => by have := q1.2.2 e; have := q2.2.2 e; omega⟩
theorem met_len (z : Int) (l : List Int) (z' : Int) (l' : List Int) : (outL (metF z l z' l') z.toNat).length ≤ 169 := by
  cases h : metF z l z' l' with
  | none => simp [outL]
  | some f =>
    show (mk z.toNat f).length ≤ 169
    rw [mk_len]
    refine sq_le ?_
    unfold metF at h
    split at h
    · rename_i hk
      rw [Bool.and_eq_true] at hk
      obtain ⟨m, rfl, _, k2, _⟩ := ok_of hk.1
      rw [Int.toNat_natCast]; exact k2
    · cases h
theorem Bytes.old {w w' : World} {a : Option Addr} {n : Nat} (h : Bytes w w.heap.size a n) (hb : Below w.heap.size w w') : Bytes w' w'.heap.size a n := h.up hb.size hb
theorem Vgood.get {l : List Int} (h : Vgood l) {i : Nat} (hi : i < l.length) : -6 ≤ l.getD i 0 ∧ l.getD i 0 ≤ 17 := h.1 _ (by rw [List.getD_eq_getElem?_getD, List.getElem?_eq_getElem hi]; exact List.getElem_mem _)
set_option maxRecDepth 100000 in
set_option maxHeartbeats 25600000 in
theorem law_walk (a1 a2 : Option Addr) (n1 c1 n2 c2 : Nat) (w : World) (hn1 : n1 ≤ maxLen) (hn2 : n2 ≤ maxLen) (hb1 : Bytes w w.heap.size a1 n1) (hb2 : Bytes w w.heap.size a2 n2) : Calls Try.prog 3 #[.slice a1 n1 c1, .slice a2 n2 c2] w fun e w' => e = .returned (.bool true) ∧ Below w.heap.size w w' := by
  have HB1 := mkHid hb1
  have HB2 := mkHid hb2
  have HN1 := mkHid hn1
  have HN2 := mkHid hn2
  clear hb1 hb2 hn1 hn2
  by_cases g1 : 1048576 < n1
  · have e1 : decide (1048576 < n1) = true := decide_eq_true g1
    go_enter Try.func3, Try.ntmps3
    go_wp2_with fail
    refine (big_any n1 _ _ _ HN1.out).mono ?_
    rintro e w' ⟨rfl, rfl⟩
    go_wp2
    go_ret
    exact ⟨rfl, Below.refl _ _⟩
  by_cases g2 : 1048576 < n2
  · have e1 : decide (1048576 < n1) = false := decide_eq_false g1
    have e2 : decide (1048576 < n2) = true := decide_eq_true g2
    go_enter Try.func3, Try.ntmps3
    go_wp2_with fail
    refine (big_any n1 _ _ _ HN1.out).mono ?_
    rintro e w' ⟨rfl, rfl⟩
    go_wp2_with fail
    refine (big_any n2 _ _ _ HN2.out).mono ?_
    rintro e w' ⟨rfl, rfl⟩
    go_wp2
    go_ret
    exact ⟨rfl, Below.refl _ _⟩
  have e1 : decide (1048576 < n1) = false := decide_eq_false g1
  have e2 : decide (1048576 < n2) = false := decide_eq_false g2
  have HM2 := mkHid (show n2 ≤ 1048576 by omega)
  have HM1 := mkHid (show n1 ≤ 1048576 by omega)
  clear g1 g2
  go_enter Try.func3, Try.ntmps3
  go_wp2_with fail
  refine (big_any n1 _ _ _ HN1.out).mono ?_
  rintro e w' ⟨rfl, rfl⟩
  go_wp2_with fail
  refine (big_any n2 _ _ _ HN2.out).mono ?_
  rintro e w' ⟨rfl, rfl⟩
  go_wp2_with fail
  refine (drawJoin_any n1 c1 a1 w HM1.out HB1.out).mono ?_
  rintro e w1 ⟨z, l, ao, cp, z', l', ao', cp', rfl, hz, hz', hO, hO', hb⟩
  obtain ⟨A, hA⟩ : ∃ q, w1.heap.size = q := ⟨_, rfl⟩
  obtain ⟨w2, hw2⟩ : ∃ x, (w1.alloc (.cells #[.int .i64 z, .slice ao l.length cp] 26)).alloc (.cells #[.int .i64 z', .slice ao' l'.length cp'] 26) = x := ⟨_, rfl⟩
  have A2 : Below w1.heap.size w1 w2 := by rw [← hw2]; exact bl_alloc (bl_alloc (Below.refl _ _) _) _
  have BE := mkHid (below_step hb A2)
  have BY := mkHid ((HB2.out.old hb).old A2)
  have FA : Hid (Fc w2 A z ao l.length cp) := mkHid (by rw [← hw2, ← hA]; exact (Fc.new w1 z ao l.length cp 26).below (below_alloc _ _))
  have FB : Hid (Fc w2 (A + 1) z' ao' l'.length cp') := mkHid (by rw [← hw2, ← hA]; have := Fc.new (w1.alloc (.cells #[.int .i64 z, .slice ao l.length cp] 26)) z' ao' l'.length cp' 26; simpa using this)
  have LA := mkHid (hO.at.below A2)
  have LB := mkHid (hO'.at.below A2)
  have HZ := mkHid hz
  have HZ' := mkHid hz'
  clear hb hO hO' A2 hz hz' HB1 HB2
  go_wp2_with fail
  clear hw2 hA
  refine (drawWid_any n2 c2 a2 w2 HM2.out BY.out).mono ?_
  rintro e w3 ⟨y1, m1, p1, r1, y2, m2, p2, r2, st, gs, cs, rfl, hst, hI, hgs, hb⟩
  obtain ⟨D, hD⟩ : ∃ q, w3.heap.size = q := ⟨_, rfl⟩
  obtain ⟨w4, hw4⟩ : ∃ x, (w3.alloc (.cells #[.int .i64 y1, .slice p1 m1.length r1] 26)).alloc (.cells #[.int .i64 y2, .slice p2 m2.length r2] 26) = x := ⟨_, rfl⟩
  have A2 : Below w3.heap.size w3 w4 := by rw [← hw4]; exact bl_alloc (bl_alloc (Below.refl _ _) _) _
  have hb2 := below_step hb A2
  have BE := mkHid (below_step BE.out hb2)
  have BY := mkHid (BY.out.old hb2)
  have FA := mkHid (FA.out.below hb2)
  have FB := mkHid (FB.out.below hb2)
  have LA := mkHid (LA.out.below hb2)
  have LB := mkHid (LB.out.below hb2)
  have IS := mkHid (hI.below A2)
  have GS := mkHid (Nat.lt_of_lt_of_le hgs A2.size)
  have HST := mkHid (show st.length ≤ maxLen by unfold maxLen; omega)
  clear hb hb2 A2 hst hI hgs
  obtain ⟨zj, hzj⟩ : ∃ r, (joinR z l z' l').1 = r := ⟨_, rfl⟩
  obtain ⟨lj, hlj⟩ : ∃ r, (joinR z l z' l').2 = r := ⟨_, rfl⟩
  have HLJ : Hid (lj.length ≤ maxLen) := mkHid (by rw [← hlj]; unfold maxLen; have := joinR_len z l z' l'; omega)
  obtain ⟨zm, hzm⟩ : ∃ r, outZ (metF z l z' l') z.toNat = r := ⟨_, rfl⟩
  obtain ⟨lm, hlm⟩ : ∃ r, outL (metF z l z' l') z.toNat = r := ⟨_, rfl⟩
  have HLM : Hid (lm.length ≤ maxLen) := mkHid (by rw [← hlm]; unfold maxLen; have := met_len z l z' l'; omega)
  obtain ⟨zw, hzw⟩ : ∃ r, (widR z l z' l' st).1 = r := ⟨_, rfl⟩
  obtain ⟨lw, hlw⟩ : ∃ r, (widR z l z' l' st).2 = r := ⟨_, rfl⟩
  have HLW : Hid (lw.length ≤ maxLen) := mkHid (by rw [← hlw]; unfold maxLen; have := widR_len z l z' l' st; omega)
  obtain ⟨zx, hzx⟩ : ∃ r, outZ (cF z l) z.toNat = r := ⟨_, rfl⟩
  obtain ⟨lx, hlx⟩ : ∃ r, outL (cF z l) z.toNat = r := ⟨_, rfl⟩
  have HLX : Hid (lx.length ≤ maxLen) := mkHid (by rw [← hlx]; unfold maxLen; have := outL_len (cF_fine z l).good; omega)
  have C9 : Hid (∀ v, IntsAt v ao l → IntsAt v ao' l' → Calls Try.prog 9 #[.agg #[.int .i64 z, .slice ao l.length cp], .agg #[.int .i64 z', .slice ao' l'.length cp']] v fun e w' => Gives v w' e zj lj) := mkHid fun v h1 h2 => by rw [← hzj, ← hlj]; exact iJoin_any z l ao cp z' l' ao' cp' v HZ.out.2.2 HZ'.out.2.2 h1 h2
  have C14 : Hid (∀ v, IntsAt v ao l → IntsAt v ao' l' → Calls Try.prog 14 #[.agg #[.int .i64 z, .slice ao l.length cp], .agg #[.int .i64 z', .slice ao' l'.length cp']] v fun e w' => Gives v w' e zj lj) := mkHid fun v h1 h2 => by rw [← hzj, ← hlj]; exact sJoin_any z l ao cp z' l' ao' cp' v h1 h2
  have C10 : Hid (∀ v, IntsAt v ao l → IntsAt v ao' l' → Calls Try.prog 10 #[.agg #[.int .i64 z, .slice ao l.length cp], .agg #[.int .i64 z', .slice ao' l'.length cp']] v fun e w' => Gives v w' e zm lm) := mkHid fun v h1 h2 => by rw [← hzm, ← hlm]; exact iMeet_any z l ao cp z' l' ao' cp' v HZ.out.2.2 HZ'.out.2.2 h1 h2
  have C15 : Hid (∀ v, IntsAt v ao l → IntsAt v ao' l' → Calls Try.prog 15 #[.agg #[.int .i64 z, .slice ao l.length cp], .agg #[.int .i64 z', .slice ao' l'.length cp']] v fun e w' => Gives v w' e zm lm) := mkHid fun v h1 h2 => by rw [← hzm, ← hlm]; exact sMeet_any z l ao cp z' l' ao' cp' v h1 h2
  have C11 : Hid (∀ v, IntsAt v ao l → IntsAt v ao' l' → IntsIn v st gs 0 → gs < v.heap.size → Calls Try.prog 11 #[.agg #[.int .i64 z, .slice ao l.length cp], .agg #[.int .i64 z', .slice ao' l'.length cp'], .slice (some ⟨gs, 0, none⟩) st.length cs] v fun e w' => Gives v w' e zw lw) := mkHid fun v h1 h2 h3 h4 => by rw [← hzw, ← hlw]; exact iWiden_any z l ao cp z' l' ao' cp' st gs cs v (.inr h4) HST.out HZ.out.2.2 HZ'.out.2.2 h1 h2 h3
  have C16 : Hid (∀ v, IntsAt v ao l → IntsAt v ao' l' → IntsIn v st gs 0 → Calls Try.prog 16 #[.agg #[.int .i64 z, .slice ao l.length cp], .agg #[.int .i64 z', .slice ao' l'.length cp'], .slice (some ⟨gs, 0, none⟩) st.length cs] v fun e w' => Gives v w' e zw lw) := mkHid fun v h1 h2 h3 => by rw [← hzw, ← hlw]; exact sWiden_any z l ao cp z' l' ao' cp' st gs cs v HST.out h1 h2 h3
  have C12 : Hid (∀ v, IntsAt v ao l → Calls Try.prog 12 #[.agg #[.int .i64 z, .slice ao l.length cp]] v fun e w' => Gives v w' e zx lx) := mkHid fun v h1 => by rw [← hzx, ← hlx]; exact iClose_any z l ao cp v HZ.out.2.2 h1
  have C17 : Hid (∀ v, IntsAt v ao l → Calls Try.prog 17 #[.agg #[.int .i64 z, .slice ao l.length cp]] v fun e w' => Gives v w' e zx lx) := mkHid fun v h1 => by rw [← hzx, ← hlx]; exact sClose_any z l ao cp v h1
  have EJ := mkHid (And.intro hzj hlj)
  have EM := mkHid (And.intro hzm hlm)
  have EW := mkHid (And.intro hzw hlw)
  have EX := mkHid (And.intro hzx hlx)
  clear hzj hlj hzm hlm hzw hlw hzx hlx
  obtain ⟨a0, a1'⟩ := FA.out
  obtain ⟨b0, b1⟩ := FB.out
  go_wp2_with fail
  clear hw4 hD a0 a1' b0 b1
  refine (C9.out _ LA.out LB.out).mono ?_
  rintro e w5 ⟨aJ, cJ, rfl, hO, hb⟩
  obtain ⟨J, hJ⟩ : ∃ q, w5.heap.size = q := ⟨_, rfl⟩
  obtain ⟨x5, hx5⟩ : ∃ x, w5.alloc (.cells #[.int .i64 zj, .slice aJ lj.length cJ] 26) = x := ⟨_, rfl⟩
  have A2 : Below w5.heap.size w5 x5 := by rw [← hx5]; exact below_alloc _ _
  have hb2 := below_step hb A2
  have BE := mkHid (below_step BE.out hb2)
  have BY := mkHid (BY.out.old hb2)
  have FA := mkHid (FA.out.below hb2)
  have FB := mkHid (FB.out.below hb2)
  have LA := mkHid (LA.out.below hb2)
  have LB := mkHid (LB.out.below hb2)
  have IS := mkHid (IS.out.below hb2)
  have GS := mkHid (Nat.lt_of_lt_of_le GS.out hb2.size)
  have FJ : Hid (Fc x5 J zj aJ lj.length cJ) := mkHid (by rw [← hx5, ← hJ]; exact Fc.new _ _ _ _ _ 26)
  have LJ := mkHid (hO.at.below A2)
  clear hb hb2 hO A2 C9
  obtain ⟨a0, a1'⟩ := FA.out
  obtain ⟨b0, b1⟩ := FB.out
  go_wp2_with fail
  clear hx5 hJ a0 a1' b0 b1
  refine (C10.out _ LA.out LB.out).mono ?_
  rintro e w6 ⟨aM, cM, rfl, hO, hb⟩
  obtain ⟨M, hM⟩ : ∃ q, w6.heap.size = q := ⟨_, rfl⟩
  obtain ⟨x6, hx6⟩ : ∃ x, w6.alloc (.cells #[.int .i64 zm, .slice aM lm.length cM] 26) = x := ⟨_, rfl⟩
  have A2 : Below w6.heap.size w6 x6 := by rw [← hx6]; exact below_alloc _ _
  have hb2 := below_step hb A2
  have BE := mkHid (below_step BE.out hb2)
  have BY := mkHid (BY.out.old hb2)
  have FA := mkHid (FA.out.below hb2)
  have FB := mkHid (FB.out.below hb2)
  have LA := mkHid (LA.out.below hb2)
  have LB := mkHid (LB.out.below hb2)
  have IS := mkHid (IS.out.below hb2)
  have GS := mkHid (Nat.lt_of_lt_of_le GS.out hb2.size)
  have FJ := mkHid (FJ.out.below hb2)
  have LJ := mkHid (LJ.out.below hb2)
  have FM : Hid (Fc x6 M zm aM lm.length cM) := mkHid (by rw [← hx6, ← hM]; exact Fc.new _ _ _ _ _ 26)
  have LM := mkHid (hO.at.below A2)
  clear hb hb2 hO A2 C10
  obtain ⟨a0, a1'⟩ := FA.out
  obtain ⟨b0, b1⟩ := FB.out
  go_wp2_with fail
  clear hx6 hM a0 a1' b0 b1
  refine (C11.out _ LA.out LB.out IS.out GS.out).mono ?_
  rintro e w7 ⟨aW, cW, rfl, hO, hb⟩
  obtain ⟨W, hW⟩ : ∃ q, w7.heap.size = q := ⟨_, rfl⟩
  obtain ⟨x7, hx7⟩ : ∃ x, w7.alloc (.cells #[.int .i64 zw, .slice aW lw.length cW] 26) = x := ⟨_, rfl⟩
  have A2 : Below w7.heap.size w7 x7 := by rw [← hx7]; exact below_alloc _ _
  have hb2 := below_step hb A2
  have BE := mkHid (below_step BE.out hb2)
  have BY := mkHid (BY.out.old hb2)
  have FA := mkHid (FA.out.below hb2)
  have FB := mkHid (FB.out.below hb2)
  have LA := mkHid (LA.out.below hb2)
  have LB := mkHid (LB.out.below hb2)
  have IS := mkHid (IS.out.below hb2)
  have GS := mkHid (Nat.lt_of_lt_of_le GS.out hb2.size)
  have FJ := mkHid (FJ.out.below hb2)
  have LJ := mkHid (LJ.out.below hb2)
  have FM := mkHid (FM.out.below hb2)
  have LM := mkHid (LM.out.below hb2)
  have FW : Hid (Fc x7 W zw aW lw.length cW) := mkHid (by rw [← hx7, ← hW]; exact Fc.new _ _ _ _ _ 26)
  have LW := mkHid (hO.at.below A2)
  clear hb hb2 hO A2 C11
  obtain ⟨a0, a1'⟩ := FA.out
  obtain ⟨b0, b1⟩ := FB.out
  go_wp2_with fail
  clear hx7 hW a0 a1' b0 b1
  refine (C12.out _ LA.out).mono ?_
  rintro e w8 ⟨aX, cX, rfl, hO, hb⟩
  obtain ⟨X, hX⟩ : ∃ q, w8.heap.size = q := ⟨_, rfl⟩
  obtain ⟨x8, hx8⟩ : ∃ x, w8.alloc (.cells #[.int .i64 zx, .slice aX lx.length cX] 26) = x := ⟨_, rfl⟩
  have A2 : Below w8.heap.size w8 x8 := by rw [← hx8]; exact below_alloc _ _
  have hb2 := below_step hb A2
  have BE := mkHid (below_step BE.out hb2)
  have BY := mkHid (BY.out.old hb2)
  have FA := mkHid (FA.out.below hb2)
  have FB := mkHid (FB.out.below hb2)
  have LA := mkHid (LA.out.below hb2)
  have LB := mkHid (LB.out.below hb2)
  have IS := mkHid (IS.out.below hb2)
  have GS := mkHid (Nat.lt_of_lt_of_le GS.out hb2.size)
  have FJ := mkHid (FJ.out.below hb2)
  have LJ := mkHid (LJ.out.below hb2)
  have FM := mkHid (FM.out.below hb2)
  have LM := mkHid (LM.out.below hb2)
  have FW := mkHid (FW.out.below hb2)
  have LW := mkHid (LW.out.below hb2)
  have FX : Hid (Fc x8 X zx aX lx.length cX) := mkHid (by rw [← hx8, ← hX]; exact Fc.new _ _ _ _ _ 26)
  have LX := mkHid (hO.at.below A2)
  clear hb hb2 hO A2 C12
  have hA9 : ∀ v', Below x8.heap.size x8 v' → v'.cell? ⟨A, 0, none⟩ = some (.int .i64 z) ∧ v'.cell? ⟨A, 1, none⟩ = some (.slice ao l.length cp) := fun v' h => FA.out.below h
  have hB9 : ∀ v', Below x8.heap.size x8 v' → v'.cell? ⟨A + 1, 0, none⟩ = some (.int .i64 z') ∧ v'.cell? ⟨A + 1, 1, none⟩ = some (.slice ao' l'.length cp') := fun v' h => FB.out.below h
  have hJ9 : ∀ v', Below x8.heap.size x8 v' → v'.cell? ⟨J, 0, none⟩ = some (.int .i64 zj) ∧ v'.cell? ⟨J, 1, none⟩ = some (.slice aJ lj.length cJ) := fun v' h => FJ.out.below h
  have hM9 : ∀ v', Below x8.heap.size x8 v' → v'.cell? ⟨M, 0, none⟩ = some (.int .i64 zm) ∧ v'.cell? ⟨M, 1, none⟩ = some (.slice aM lm.length cM) := fun v' h => FM.out.below h
  have hW9 : ∀ v', Below x8.heap.size x8 v' → v'.cell? ⟨W, 0, none⟩ = some (.int .i64 zw) ∧ v'.cell? ⟨W, 1, none⟩ = some (.slice aW lw.length cW) := fun v' h => FW.out.below h
  have hX9 : ∀ v', Below x8.heap.size x8 v' → v'.cell? ⟨X, 0, none⟩ = some (.int .i64 zx) ∧ v'.cell? ⟨X, 1, none⟩ = some (.slice aX lx.length cX) := fun v' h => FX.out.below h
  go_wp2_with fail
  clear hx8 hX
  refine wp_region_inv2 (fun zA0 L zA v9 => ∃ (zB : Nat → Bool) (zS : Nat → Value) (qa0 : Option Addr) (qc0 : Nat) (qa1 : Option Addr) (qc1 : Nat) (qa2 : Option Addr) (qc2 : Nat) (qa3 : Option Addr) (qc3 : Nat), L = #[zB 0, zB 1, zB 2, zB 3, zB 4, zB 5, zB 6, zB 7, zB 8, zB 9, zB 10, zB 11, zB 12, zB 13, zB 14, zB 15, zB 16, zB 17, zB 18, zB 19, zB 20, zB 21, zB 22, zB 23, zB 24, zB 25, zB 26, zB 27, zB 28, zB 29] ∧ zA = puts zA0 [(51, zS 51), (52, zS 52), (53, zS 53), (54, zS 54), (55, zS 55), (56, zS 56), (57, zS 57), (58, zS 58), (59, zS 59), (60, zS 60), (61, zS 61), (62, zS 62), (63, zS 63), (64, zS 64), (65, zS 65), (66, zS 66), (67, zS 67), (68, zS 68), (69, zS 69), (70, zS 70), (71, zS 71), (72, zS 72), (73, zS 73), (74, zS 74), (75, zS 75), (76, zS 76), (77, zS 77), (78, zS 78), (79, zS 79), (80, zS 80)] ∧ ((zB 0 = true → zS 51 = .agg #[.int .i64 zj, .slice aJ lj.length cJ]) ∧ (zB 1 = true → zS 52 = .agg #[.int .i64 z, .slice ao l.length cp]) ∧ (zB 2 = true → zS 53 = .agg #[.int .i64 z', .slice ao' l'.length cp']) ∧ (zB 3 = true → zS 54 = .agg #[.int .i64 zj, .slice qa0 lj.length qc0]) ∧ (zB 4 = true → zS 55 = .bool true) ∧ (zB 5 = true → zS 56 = .bool false) ∧ (zB 6 = true → zS 57 = .bool false) ∧ (zB 7 = true → zS 58 = .agg #[.int .i64 zm, .slice aM lm.length cM]) ∧ (zB 8 = true → zS 59 = .agg #[.int .i64 z, .slice ao l.length cp]) ∧ (zB 9 = true → zS 60 = .agg #[.int .i64 z', .slice ao' l'.length cp']) ∧ (zB 10 = true → zS 61 = .agg #[.int .i64 zm, .slice qa1 lm.length qc1]) ∧ (zB 11 = true → zS 62 = .bool true) ∧ (zB 12 = true → zS 63 = .bool false) ∧ (zB 13 = true → zS 64 = .bool false) ∧ (zB 14 = true → zS 65 = .bool false) ∧ (zB 15 = true → zS 66 = .agg #[.int .i64 zw, .slice aW lw.length cW]) ∧ (zB 16 = true → zS 67 = .agg #[.int .i64 z, .slice ao l.length cp]) ∧ (zB 17 = true → zS 68 = .agg #[.int .i64 z', .slice ao' l'.length cp']) ∧ (zB 18 = true → zS 69 = .slice (some ⟨gs, 0, none⟩) st.length cs) ∧ (zB 19 = true → zS 70 = .agg #[.int .i64 zw, .slice qa2 lw.length qc2]) ∧ (zB 20 = true → zS 71 = .bool true) ∧ (zB 21 = true → zS 72 = .bool false) ∧ (zB 22 = true → zS 73 = .bool false) ∧ (zB 23 = true → zS 74 = .bool false) ∧ (zB 24 = true → zS 75 = .agg #[.int .i64 zx, .slice aX lx.length cX]) ∧ (zB 25 = true → zS 76 = .agg #[.int .i64 z, .slice ao l.length cp]) ∧ (zB 26 = true → zS 77 = .agg #[.int .i64 zx, .slice qa3 lx.length qc3]) ∧ (zB 27 = true → zS 78 = .bool true) ∧ (zB 28 = true → zS 79 = .bool false) ∧ (zB 29 = true → zS 80 = .bool false)) ∧ Below x8.heap.size x8 v9 ∧ ((zB 3) = true → IntsAt v9 qa0 lj) ∧ ((zB 10) = true → IntsAt v9 qa1 lm) ∧ ((zB 19) = true → IntsAt v9 qa2 lw) ∧ ((zB 26) = true → IntsAt v9 qa3 lx)) (by kernel_rfl) ?_ ?_ ?_
  · exact ⟨fun _ => false, fun _ => undef, none, 0, none, 0, none, 0, none, 0, rfl, by kernel_rfl, ⟨fun e => ft e, fun e => ft e, fun e => ft e, fun e => ft e, fun e => ft e, fun e => ft e, fun e => ft e, fun e => ft e, fun e => ft e, fun e => ft e, fun e => ft e, fun e => ft e, fun e => ft e, fun e => ft e, fun e => ft e, fun e => ft e, fun e => ft e, fun e => ft e, fun e => ft e, fun e => ft e, fun e => ft e, fun e => ft e, fun e => ft e, fun e => ft e, fun e => ft e, fun e => ft e, fun e => ft e, fun e => ft e, fun e => ft e, fun e => ft e⟩, ⟨(Below.refl _ _).drew, fun e => ft e, fun e => ft e, fun e => ft e, fun e => ft e⟩⟩
  · refine StepsI.cons rfl ?_ ?_
    · rintro L zA v9 ⟨zB, zS, qa0, qc0, qa1, qc1, qa2, qc2, qa3, qc3, rfl, rfl, hF, hW⟩ hL hm K hK
      have hb0 : zB 0 = false := by simpa using hL
      clear hL hm
      simp only [puts, Act.put, List.setIfInBounds_toArray, List.set_cons_zero, List.set_cons_succ]
      obtain ⟨k0, k1⟩ := hJ9 _ hW.1
      go_simp
      exact hK.out _ _ ⟨fun zj => if zj = 0 then true else zB zj, fun zd => if zd = 51 then .agg #[.int .i64 zj, .slice aJ lj.length cJ] else zS zd, qa0, qc0, qa1, qc1, qa2, qc2, qa3, qc3, rfl, by kernel_rfl, ⟨fun _ => rfl, hF.2.1, hF.2.2.1, hF.2.2.2.1, hF.2.2.2.2.1, hF.2.2.2.2.2.1, hF.2.2.2.2.2.2.1, hF.2.2.2.2.2.2.2.1, hF.2.2.2.2.2.2.2.2.1, hF.2.2.2.2.2.2.2.2.2.1, hF.2.2.2.2.2.2.2.2.2.2.1, hF.2.2.2.2.2.2.2.2.2.2.2.1, hF.2.2.2.2.2.2.2.2.2.2.2.2.1, hF.2.2.2.2.2.2.2.2.2.2.2.2.2.1, hF.2.2.2.2.2.2.2.2.2.2.2.2.2.2.1, hF.2.2.2.2.2.2.2.2.2.2.2.2.2.2.2.1, hF.2.2.2.2.2.2.2.2.2.2.2.2.2.2.2.2.1, hF.2.2.2.2.2.2.2.2.2.2.2.2.2.2.2.2.2.1, hF.2.2.2.2.2.2.2.2.2.2.2.2.2.2.2.2.2.2.1, hF.2.2.2.2.2.2.2.2.2.2.2.2.2.2.2.2.2.2.2.1, hF.2.2.2.2.2.2.2.2.2.2.2.2.2.2.2.2.2.2.2.2.1, hF.2.2.2.2.2.2.2.2.2.2.2.2.2.2.2.2.2.2.2.2.2.1, hF.2.2.2.2.2.2.2.2.2.2.2.2.2.2.2.2.2.2.2.2.2.2.1, hF.2.2.2.2.2.2.2.2.2.2.2.2.2.2.2.2.2.2.2.2.2.2.2.1, hF.2.2.2.2.2.2.2.2.2.2.2.2.2.2.2.2.2.2.2.2.2.2.2.2.1, hF.2.2.2.2.2.2.2.2.2.2.2.2.2.2.2.2.2.2.2.2.2.2.2.2.2.1, hF.2.2.2.2.2.2.2.2.2.2.2.2.2.2.2.2.2.2.2.2.2.2.2.2.2.2.1, hF.2.2.2.2.2.2.2.2.2.2.2.2.2.2.2.2.2.2.2.2.2.2.2.2.2.2.2.1, hF.2.2.2.2.2.2.2.2.2.2.2.2.2.2.2.2.2.2.2.2.2.2.2.2.2.2.2.2.1, hF.2.2.2.2.2.2.2.2.2.2.2.2.2.2.2.2.2.2.2.2.2.2.2.2.2.2.2.2.2⟩, hW⟩
    refine StepsI.cons rfl ?_ ?_
    · rintro L zA v9 ⟨zB, zS, qa0, qc0, qa1, qc1, qa2, qc2, qa3, qc3, rfl, rfl, hF, hW⟩ hL hm K hK
      have hb1 : zB 1 = false := by simpa using hL
      clear hL hm
      simp only [puts, Act.put, List.setIfInBounds_toArray, List.set_cons_zero, List.set_cons_succ]
      obtain ⟨k0, k1⟩ := hA9 _ hW.1
      go_simp
      exact hK.out _ _ ⟨fun zj => if zj = 1 then true else zB zj, fun zd => if zd = 52 then .agg #[.int .i64 z, .slice ao l.length cp] else zS zd, qa0, qc0, qa1, qc1, qa2, qc2, qa3, qc3, rfl, by kernel_rfl, ⟨hF.1, fun _ => rfl, hF.2.2.1, hF.2.2.2.1, hF.2.2.2.2.1, hF.2.2.2.2.2.1, hF.2.2.2.2.2.2.1, hF.2.2.2.2.2.2.2.1, hF.2.2.2.2.2.2.2.2.1, hF.2.2.2.2.2.2.2.2.2.1, hF.2.2.2.2.2.2.2.2.2.2.1, hF.2.2.2.2.2.2.2.2.2.2.2.1, hF.2.2.2.2.2.2.2.2.2.2.2.2.1, hF.2.2.2.2.2.2.2.2.2.2.2.2.2.1, hF.2.2.2.2.2.2.2.2.2.2.2.2.2.2.1, hF.2.2.2.2.2.2.2.2.2.2.2.2.2.2.2.1, hF.2.2.2.2.2.2.2.2.2.2.2.2.2.2.2.2.1, hF.2.2.2.2.2.2.2.2.2.2.2.2.2.2.2.2.2.1, hF.2.2.2.2.2.2.2.2.2.2.2.2.2.2.2.2.2.2.1, hF.2.2.2.2.2.2.2.2.2.2.2.2.2.2.2.2.2.2.2.1, hF.2.2.2.2.2.2.2.2.2.2.2.2.2.2.2.2.2.2.2.2.1, hF.2.2.2.2.2.2.2.2.2.2.2.2.2.2.2.2.2.2.2.2.2.1, hF.2.2.2.2.2.2.2.2.2.2.2.2.2.2.2.2.2.2.2.2.2.2.1, hF.2.2.2.2.2.2.2.2.2.2.2.2.2.2.2.2.2.2.2.2.2.2.2.1, hF.2.2.2.2.2.2.2.2.2.2.2.2.2.2.2.2.2.2.2.2.2.2.2.2.1, hF.2.2.2.2.2.2.2.2.2.2.2.2.2.2.2.2.2.2.2.2.2.2.2.2.2.1, hF.2.2.2.2.2.2.2.2.2.2.2.2.2.2.2.2.2.2.2.2.2.2.2.2.2.2.1, hF.2.2.2.2.2.2.2.2.2.2.2.2.2.2.2.2.2.2.2.2.2.2.2.2.2.2.2.1, hF.2.2.2.2.2.2.2.2.2.2.2.2.2.2.2.2.2.2.2.2.2.2.2.2.2.2.2.2.1, hF.2.2.2.2.2.2.2.2.2.2.2.2.2.2.2.2.2.2.2.2.2.2.2.2.2.2.2.2.2⟩, hW⟩
    refine StepsI.cons rfl ?_ ?_
    · rintro L zA v9 ⟨zB, zS, qa0, qc0, qa1, qc1, qa2, qc2, qa3, qc3, rfl, rfl, hF, hW⟩ hL hm K hK
      have hb2 : zB 2 = false := by simpa using hL
      clear hL hm
      simp only [puts, Act.put, List.setIfInBounds_toArray, List.set_cons_zero, List.set_cons_succ]
      obtain ⟨k0, k1⟩ := hB9 _ hW.1
      go_simp
      exact hK.out _ _ ⟨fun zj => if zj = 2 then true else zB zj, fun zd => if zd = 53 then .agg #[.int .i64 z', .slice ao' l'.length cp'] else zS zd, qa0, qc0, qa1, qc1, qa2, qc2, qa3, qc3, rfl, by kernel_rfl, ⟨hF.1, hF.2.1, fun _ => rfl, hF.2.2.2.1, hF.2.2.2.2.1, hF.2.2.2.2.2.1, hF.2.2.2.2.2.2.1, hF.2.2.2.2.2.2.2.1, hF.2.2.2.2.2.2.2.2.1, hF.2.2.2.2.2.2.2.2.2.1, hF.2.2.2.2.2.2.2.2.2.2.1, hF.2.2.2.2.2.2.2.2.2.2.2.1, hF.2.2.2.2.2.2.2.2.2.2.2.2.1, hF.2.2.2.2.2.2.2.2.2.2.2.2.2.1, hF.2.2.2.2.2.2.2.2.2.2.2.2.2.2.1, hF.2.2.2.2.2.2.2.2.2.2.2.2.2.2.2.1, hF.2.2.2.2.2.2.2.2.2.2.2.2.2.2.2.2.1, hF.2.2.2.2.2.2.2.2.2.2.2.2.2.2.2.2.2.1, hF.2.2.2.2.2.2.2.2.2.2.2.2.2.2.2.2.2.2.1, hF.2.2.2.2.2.2.2.2.2.2.2.2.2.2.2.2.2.2.2.1, hF.2.2.2.2.2.2.2.2.2.2.2.2.2.2.2.2.2.2.2.2.1, hF.2.2.2.2.2.2.2.2.2.2.2.2.2.2.2.2.2.2.2.2.2.1, hF.2.2.2.2.2.2.2.2.2.2.2.2.2.2.2.2.2.2.2.2.2.2.1, hF.2.2.2.2.2.2.2.2.2.2.2.2.2.2.2.2.2.2.2.2.2.2.2.1, hF.2.2.2.2.2.2.2.2.2.2.2.2.2.2.2.2.2.2.2.2.2.2.2.2.1, hF.2.2.2.2.2.2.2.2.2.2.2.2.2.2.2.2.2.2.2.2.2.2.2.2.2.1, hF.2.2.2.2.2.2.2.2.2.2.2.2.2.2.2.2.2.2.2.2.2.2.2.2.2.2.1, hF.2.2.2.2.2.2.2.2.2.2.2.2.2.2.2.2.2.2.2.2.2.2.2.2.2.2.2.1, hF.2.2.2.2.2.2.2.2.2.2.2.2.2.2.2.2.2.2.2.2.2.2.2.2.2.2.2.2.1, hF.2.2.2.2.2.2.2.2.2.2.2.2.2.2.2.2.2.2.2.2.2.2.2.2.2.2.2.2.2⟩, hW⟩
    refine StepsI.cons rfl ?_ ?_
    · rintro L zA v9 ⟨zB, zS, qa0, qc0, qa1, qc1, qa2, qc2, qa3, qc3, rfl, rfl, hF, hW⟩ hL hm K hK
      have hb3 : zB 3 = false := by simpa using hL
      have hb1 : zB 1 = true := by cases e : zB 1 with | false => (exfalso; revert hm; simp [metB, Region.binds, e]) | true => rfl
      have hb2 : zB 2 = true := by cases e : zB 2 with | false => (exfalso; revert hm; simp [metB, Region.binds, e]) | true => rfl
      have e1 : zS 52 = .agg #[.int .i64 z, .slice ao l.length cp] := hF.2.1 hb1
      have e2 : zS 53 = .agg #[.int .i64 z', .slice ao' l'.length cp'] := hF.2.2.1 hb2
      clear hL hm
      rw [hb3] at hW
      simp only [puts, Act.put, List.setIfInBounds_toArray, List.set_cons_zero, List.set_cons_succ]
      simp only [e1, e2]
      go_simp
      refine (C14.out _ (LA.out.below hW.1) (LB.out.below hW.1)).mono ?_
      rintro e v92 ⟨qa9, qc9, rfl, hO2, hb⟩
      go_wp2_with fail
      exact hK.out _ _ ⟨fun zj => if zj = 2 then true else if zj = 1 then true else if zj = 3 then true else zB zj, fun zd => if zd = 54 then .agg #[.int .i64 zj, .slice qa9 lj.length qc9] else if zd = 53 then .agg #[.int .i64 z', .slice ao' l'.length cp'] else if zd = 52 then .agg #[.int .i64 z, .slice ao l.length cp] else zS zd, qa9, qc9, qa1, qc1, qa2, qc2, qa3, qc3, by simp [hb1, hb2], by kernel_rfl, ⟨hF.1, fun _ => rfl, fun _ => rfl, fun _ => rfl, hF.2.2.2.2.1, hF.2.2.2.2.2.1, hF.2.2.2.2.2.2.1, hF.2.2.2.2.2.2.2.1, hF.2.2.2.2.2.2.2.2.1, hF.2.2.2.2.2.2.2.2.2.1, hF.2.2.2.2.2.2.2.2.2.2.1, hF.2.2.2.2.2.2.2.2.2.2.2.1, hF.2.2.2.2.2.2.2.2.2.2.2.2.1, hF.2.2.2.2.2.2.2.2.2.2.2.2.2.1, hF.2.2.2.2.2.2.2.2.2.2.2.2.2.2.1, hF.2.2.2.2.2.2.2.2.2.2.2.2.2.2.2.1, hF.2.2.2.2.2.2.2.2.2.2.2.2.2.2.2.2.1, hF.2.2.2.2.2.2.2.2.2.2.2.2.2.2.2.2.2.1, hF.2.2.2.2.2.2.2.2.2.2.2.2.2.2.2.2.2.2.1, hF.2.2.2.2.2.2.2.2.2.2.2.2.2.2.2.2.2.2.2.1, hF.2.2.2.2.2.2.2.2.2.2.2.2.2.2.2.2.2.2.2.2.1, hF.2.2.2.2.2.2.2.2.2.2.2.2.2.2.2.2.2.2.2.2.2.1, hF.2.2.2.2.2.2.2.2.2.2.2.2.2.2.2.2.2.2.2.2.2.2.1, hF.2.2.2.2.2.2.2.2.2.2.2.2.2.2.2.2.2.2.2.2.2.2.2.1, hF.2.2.2.2.2.2.2.2.2.2.2.2.2.2.2.2.2.2.2.2.2.2.2.2.1, hF.2.2.2.2.2.2.2.2.2.2.2.2.2.2.2.2.2.2.2.2.2.2.2.2.2.1, hF.2.2.2.2.2.2.2.2.2.2.2.2.2.2.2.2.2.2.2.2.2.2.2.2.2.2.1, hF.2.2.2.2.2.2.2.2.2.2.2.2.2.2.2.2.2.2.2.2.2.2.2.2.2.2.2.1, hF.2.2.2.2.2.2.2.2.2.2.2.2.2.2.2.2.2.2.2.2.2.2.2.2.2.2.2.2.1, hF.2.2.2.2.2.2.2.2.2.2.2.2.2.2.2.2.2.2.2.2.2.2.2.2.2.2.2.2.2⟩, ⟨below_step hW.1 hb, fun _ => hO2.at, fun q => (hW.2.2.1 q).below hb, fun q => (hW.2.2.2.1 q).below hb, fun q => (hW.2.2.2.2 q).below hb⟩⟩
    refine StepsI.cons rfl ?_ ?_
    · rintro L zA v9 ⟨zB, zS, qa0, qc0, qa1, qc1, qa2, qc2, qa3, qc3, rfl, rfl, hF, hW⟩ hL hm K hK
      have hb4 : zB 4 = false := by simpa using hL
      have hb0 : zB 0 = true := by cases e : zB 0 with | false => (exfalso; revert hm; simp [metB, Region.binds, e]) | true => rfl
      have hb3 : zB 3 = true := by cases e : zB 3 with | false => (exfalso; revert hm; simp [metB, Region.binds, e]) | true => rfl
      have e0 : zS 51 = .agg #[.int .i64 zj, .slice aJ lj.length cJ] := hF.1 hb0
      have e3 : zS 54 = .agg #[.int .i64 zj, .slice qa0 lj.length qc0] := hF.2.2.2.1 hb3
      clear hL hm
      rw [hb3] at hW
      simp only [puts, Act.put, List.setIfInBounds_toArray, List.set_cons_zero, List.set_cons_succ]
      simp only [e0, e3]
      go_simp
      refine (sameFacts_ok zj lj _ _ _ _ _ HLJ.out (LJ.out.below hW.1) (hW.2.1 (by first | rfl | trivial))).mono ?_
      rintro e v92 ⟨rfl, hb⟩
      go_wp2_with fail
      exact hK.out _ _ ⟨fun zj => if zj = 3 then true else if zj = 0 then true else if zj = 4 then true else zB zj, fun zd => if zd = 55 then .bool true else if zd = 54 then .agg #[.int .i64 zj, .slice qa0 lj.length qc0] else if zd = 51 then .agg #[.int .i64 zj, .slice aJ lj.length cJ] else zS zd, qa0, qc0, qa1, qc1, qa2, qc2, qa3, qc3, by simp [hb0, hb3], by kernel_rfl, ⟨fun _ => rfl, hF.2.1, hF.2.2.1, fun _ => rfl, fun _ => rfl, hF.2.2.2.2.2.1, hF.2.2.2.2.2.2.1, hF.2.2.2.2.2.2.2.1, hF.2.2.2.2.2.2.2.2.1, hF.2.2.2.2.2.2.2.2.2.1, hF.2.2.2.2.2.2.2.2.2.2.1, hF.2.2.2.2.2.2.2.2.2.2.2.1, hF.2.2.2.2.2.2.2.2.2.2.2.2.1, hF.2.2.2.2.2.2.2.2.2.2.2.2.2.1, hF.2.2.2.2.2.2.2.2.2.2.2.2.2.2.1, hF.2.2.2.2.2.2.2.2.2.2.2.2.2.2.2.1, hF.2.2.2.2.2.2.2.2.2.2.2.2.2.2.2.2.1, hF.2.2.2.2.2.2.2.2.2.2.2.2.2.2.2.2.2.1, hF.2.2.2.2.2.2.2.2.2.2.2.2.2.2.2.2.2.2.1, hF.2.2.2.2.2.2.2.2.2.2.2.2.2.2.2.2.2.2.2.1, hF.2.2.2.2.2.2.2.2.2.2.2.2.2.2.2.2.2.2.2.2.1, hF.2.2.2.2.2.2.2.2.2.2.2.2.2.2.2.2.2.2.2.2.2.1, hF.2.2.2.2.2.2.2.2.2.2.2.2.2.2.2.2.2.2.2.2.2.2.1, hF.2.2.2.2.2.2.2.2.2.2.2.2.2.2.2.2.2.2.2.2.2.2.2.1, hF.2.2.2.2.2.2.2.2.2.2.2.2.2.2.2.2.2.2.2.2.2.2.2.2.1, hF.2.2.2.2.2.2.2.2.2.2.2.2.2.2.2.2.2.2.2.2.2.2.2.2.2.1, hF.2.2.2.2.2.2.2.2.2.2.2.2.2.2.2.2.2.2.2.2.2.2.2.2.2.2.1, hF.2.2.2.2.2.2.2.2.2.2.2.2.2.2.2.2.2.2.2.2.2.2.2.2.2.2.2.1, hF.2.2.2.2.2.2.2.2.2.2.2.2.2.2.2.2.2.2.2.2.2.2.2.2.2.2.2.2.1, hF.2.2.2.2.2.2.2.2.2.2.2.2.2.2.2.2.2.2.2.2.2.2.2.2.2.2.2.2.2⟩, ⟨below_step hW.1 hb, fun _ => (hW.2.1 (by first | rfl | trivial)).below hb, fun q => (hW.2.2.1 q).below hb, fun q => (hW.2.2.2.1 q).below hb, fun q => (hW.2.2.2.2 q).below hb⟩⟩
    refine StepsI.cons rfl ?_ ?_
    · rintro L zA v9 ⟨zB, zS, qa0, qc0, qa1, qc1, qa2, qc2, qa3, qc3, rfl, rfl, hF, hW⟩ hL hm K hK
      have hb5 : zB 5 = false := by simpa using hL
      have hb4 : zB 4 = true := by cases e : zB 4 with | false => (exfalso; revert hm; simp [metB, Region.binds, e]) | true => rfl
      have e4 : zS 55 = .bool true := hF.2.2.2.2.1 hb4
      clear hL hm
      simp only [puts, Act.put, List.setIfInBounds_toArray, List.set_cons_zero, List.set_cons_succ]
      simp only [e4]
      go_simp
      exact hK.out _ _ ⟨fun zj => if zj = 4 then true else if zj = 5 then true else zB zj, fun zd => if zd = 56 then .bool false else if zd = 55 then .bool true else zS zd, qa0, qc0, qa1, qc1, qa2, qc2, qa3, qc3, by simp [hb4], by kernel_rfl, ⟨hF.1, hF.2.1, hF.2.2.1, hF.2.2.2.1, fun _ => rfl, fun _ => rfl, hF.2.2.2.2.2.2.1, hF.2.2.2.2.2.2.2.1, hF.2.2.2.2.2.2.2.2.1, hF.2.2.2.2.2.2.2.2.2.1, hF.2.2.2.2.2.2.2.2.2.2.1, hF.2.2.2.2.2.2.2.2.2.2.2.1, hF.2.2.2.2.2.2.2.2.2.2.2.2.1, hF.2.2.2.2.2.2.2.2.2.2.2.2.2.1, hF.2.2.2.2.2.2.2.2.2.2.2.2.2.2.1, hF.2.2.2.2.2.2.2.2.2.2.2.2.2.2.2.1, hF.2.2.2.2.2.2.2.2.2.2.2.2.2.2.2.2.1, hF.2.2.2.2.2.2.2.2.2.2.2.2.2.2.2.2.2.1, hF.2.2.2.2.2.2.2.2.2.2.2.2.2.2.2.2.2.2.1, hF.2.2.2.2.2.2.2.2.2.2.2.2.2.2.2.2.2.2.2.1, hF.2.2.2.2.2.2.2.2.2.2.2.2.2.2.2.2.2.2.2.2.1, hF.2.2.2.2.2.2.2.2.2.2.2.2.2.2.2.2.2.2.2.2.2.1, hF.2.2.2.2.2.2.2.2.2.2.2.2.2.2.2.2.2.2.2.2.2.2.1, hF.2.2.2.2.2.2.2.2.2.2.2.2.2.2.2.2.2.2.2.2.2.2.2.1, hF.2.2.2.2.2.2.2.2.2.2.2.2.2.2.2.2.2.2.2.2.2.2.2.2.1, hF.2.2.2.2.2.2.2.2.2.2.2.2.2.2.2.2.2.2.2.2.2.2.2.2.2.1, hF.2.2.2.2.2.2.2.2.2.2.2.2.2.2.2.2.2.2.2.2.2.2.2.2.2.2.1, hF.2.2.2.2.2.2.2.2.2.2.2.2.2.2.2.2.2.2.2.2.2.2.2.2.2.2.2.1, hF.2.2.2.2.2.2.2.2.2.2.2.2.2.2.2.2.2.2.2.2.2.2.2.2.2.2.2.2.1, hF.2.2.2.2.2.2.2.2.2.2.2.2.2.2.2.2.2.2.2.2.2.2.2.2.2.2.2.2.2⟩, hW⟩
    refine StepsI.cons rfl ?_ ?_
    · rintro L zA v9 ⟨zB, zS, qa0, qc0, qa1, qc1, qa2, qc2, qa3, qc3, rfl, rfl, hF, hW⟩ hL hm K hK
      have hb6 : zB 6 = false := by simpa using hL
      have hb5 : zB 5 = true := by cases e : zB 5 with | false => (exfalso; revert hm; simp [metB, Region.binds, e]) | true => rfl
      have e5 : zS 56 = .bool false := hF.2.2.2.2.2.1 hb5
      clear hL hm
      simp only [puts, Act.put, List.setIfInBounds_toArray, List.set_cons_zero, List.set_cons_succ]
      simp only [e5]
      go_simp
      exact hK.out _ _ ⟨fun zj => if zj = 5 then true else if zj = 6 then true else zB zj, fun zd => if zd = 57 then .bool false else if zd = 56 then .bool false else zS zd, qa0, qc0, qa1, qc1, qa2, qc2, qa3, qc3, by simp [hb5], by kernel_rfl, ⟨hF.1, hF.2.1, hF.2.2.1, hF.2.2.2.1, hF.2.2.2.2.1, fun _ => rfl, fun _ => rfl, hF.2.2.2.2.2.2.2.1, hF.2.2.2.2.2.2.2.2.1, hF.2.2.2.2.2.2.2.2.2.1, hF.2.2.2.2.2.2.2.2.2.2.1, hF.2.2.2.2.2.2.2.2.2.2.2.1, hF.2.2.2.2.2.2.2.2.2.2.2.2.1, hF.2.2.2.2.2.2.2.2.2.2.2.2.2.1, hF.2.2.2.2.2.2.2.2.2.2.2.2.2.2.1, hF.2.2.2.2.2.2.2.2.2.2.2.2.2.2.2.1, hF.2.2.2.2.2.2.2.2.2.2.2.2.2.2.2.2.1, hF.2.2.2.2.2.2.2.2.2.2.2.2.2.2.2.2.2.1, hF.2.2.2.2.2.2.2.2.2.2.2.2.2.2.2.2.2.2.1, hF.2.2.2.2.2.2.2.2.2.2.2.2.2.2.2.2.2.2.2.1, hF.2.2.2.2.2.2.2.2.2.2.2.2.2.2.2.2.2.2.2.2.1, hF.2.2.2.2.2.2.2.2.2.2.2.2.2.2.2.2.2.2.2.2.2.1, hF.2.2.2.2.2.2.2.2.2.2.2.2.2.2.2.2.2.2.2.2.2.2.1, hF.2.2.2.2.2.2.2.2.2.2.2.2.2.2.2.2.2.2.2.2.2.2.2.1, hF.2.2.2.2.2.2.2.2.2.2.2.2.2.2.2.2.2.2.2.2.2.2.2.2.1, hF.2.2.2.2.2.2.2.2.2.2.2.2.2.2.2.2.2.2.2.2.2.2.2.2.2.1, hF.2.2.2.2.2.2.2.2.2.2.2.2.2.2.2.2.2.2.2.2.2.2.2.2.2.2.1, hF.2.2.2.2.2.2.2.2.2.2.2.2.2.2.2.2.2.2.2.2.2.2.2.2.2.2.2.1, hF.2.2.2.2.2.2.2.2.2.2.2.2.2.2.2.2.2.2.2.2.2.2.2.2.2.2.2.2.1, hF.2.2.2.2.2.2.2.2.2.2.2.2.2.2.2.2.2.2.2.2.2.2.2.2.2.2.2.2.2⟩, hW⟩
    refine StepsI.cons rfl ?_ ?_
    · rintro L zA v9 ⟨zB, zS, qa0, qc0, qa1, qc1, qa2, qc2, qa3, qc3, rfl, rfl, hF, hW⟩ hL hm K hK
      have hb7 : zB 7 = false := by simpa using hL
      have hb6 : zB 6 = true := by cases e : zB 6 with | false => (exfalso; revert hm; simp [metB, Region.binds, e]) | true => rfl
      have e6 : zS 57 = .bool false := hF.2.2.2.2.2.2.1 hb6
      clear hL hm
      simp only [puts, Act.put, List.setIfInBounds_toArray, List.set_cons_zero, List.set_cons_succ]
      simp only [e6]
      obtain ⟨k0, k1⟩ := hM9 _ hW.1
      go_simp
      exact hK.out _ _ ⟨fun zj => if zj = 6 then true else if zj = 7 then true else zB zj, fun zd => if zd = 58 then .agg #[.int .i64 zm, .slice aM lm.length cM] else if zd = 57 then .bool false else zS zd, qa0, qc0, qa1, qc1, qa2, qc2, qa3, qc3, by simp [hb6], by kernel_rfl, ⟨hF.1, hF.2.1, hF.2.2.1, hF.2.2.2.1, hF.2.2.2.2.1, hF.2.2.2.2.2.1, fun _ => rfl, fun _ => rfl, hF.2.2.2.2.2.2.2.2.1, hF.2.2.2.2.2.2.2.2.2.1, hF.2.2.2.2.2.2.2.2.2.2.1, hF.2.2.2.2.2.2.2.2.2.2.2.1, hF.2.2.2.2.2.2.2.2.2.2.2.2.1, hF.2.2.2.2.2.2.2.2.2.2.2.2.2.1, hF.2.2.2.2.2.2.2.2.2.2.2.2.2.2.1, hF.2.2.2.2.2.2.2.2.2.2.2.2.2.2.2.1, hF.2.2.2.2.2.2.2.2.2.2.2.2.2.2.2.2.1, hF.2.2.2.2.2.2.2.2.2.2.2.2.2.2.2.2.2.1, hF.2.2.2.2.2.2.2.2.2.2.2.2.2.2.2.2.2.2.1, hF.2.2.2.2.2.2.2.2.2.2.2.2.2.2.2.2.2.2.2.1, hF.2.2.2.2.2.2.2.2.2.2.2.2.2.2.2.2.2.2.2.2.1, hF.2.2.2.2.2.2.2.2.2.2.2.2.2.2.2.2.2.2.2.2.2.1, hF.2.2.2.2.2.2.2.2.2.2.2.2.2.2.2.2.2.2.2.2.2.2.1, hF.2.2.2.2.2.2.2.2.2.2.2.2.2.2.2.2.2.2.2.2.2.2.2.1, hF.2.2.2.2.2.2.2.2.2.2.2.2.2.2.2.2.2.2.2.2.2.2.2.2.1, hF.2.2.2.2.2.2.2.2.2.2.2.2.2.2.2.2.2.2.2.2.2.2.2.2.2.1, hF.2.2.2.2.2.2.2.2.2.2.2.2.2.2.2.2.2.2.2.2.2.2.2.2.2.2.1, hF.2.2.2.2.2.2.2.2.2.2.2.2.2.2.2.2.2.2.2.2.2.2.2.2.2.2.2.1, hF.2.2.2.2.2.2.2.2.2.2.2.2.2.2.2.2.2.2.2.2.2.2.2.2.2.2.2.2.1, hF.2.2.2.2.2.2.2.2.2.2.2.2.2.2.2.2.2.2.2.2.2.2.2.2.2.2.2.2.2⟩, hW⟩
    refine StepsI.cons rfl ?_ ?_
    · rintro L zA v9 ⟨zB, zS, qa0, qc0, qa1, qc1, qa2, qc2, qa3, qc3, rfl, rfl, hF, hW⟩ hL hm K hK
      have hb8 : zB 8 = false := by simpa using hL
      have hb6 : zB 6 = true := by cases e : zB 6 with | false => (exfalso; revert hm; simp [metB, Region.binds, e]) | true => rfl
      have e6 : zS 57 = .bool false := hF.2.2.2.2.2.2.1 hb6
      clear hL hm
      simp only [puts, Act.put, List.setIfInBounds_toArray, List.set_cons_zero, List.set_cons_succ]
      simp only [e6]
      obtain ⟨k0, k1⟩ := hA9 _ hW.1
      go_simp
      exact hK.out _ _ ⟨fun zj => if zj = 6 then true else if zj = 8 then true else zB zj, fun zd => if zd = 59 then .agg #[.int .i64 z, .slice ao l.length cp] else if zd = 57 then .bool false else zS zd, qa0, qc0, qa1, qc1, qa2, qc2, qa3, qc3, by simp [hb6], by kernel_rfl, ⟨hF.1, hF.2.1, hF.2.2.1, hF.2.2.2.1, hF.2.2.2.2.1, hF.2.2.2.2.2.1, fun _ => rfl, hF.2.2.2.2.2.2.2.1, fun _ => rfl, hF.2.2.2.2.2.2.2.2.2.1, hF.2.2.2.2.2.2.2.2.2.2.1, hF.2.2.2.2.2.2.2.2.2.2.2.1, hF.2.2.2.2.2.2.2.2.2.2.2.2.1, hF.2.2.2.2.2.2.2.2.2.2.2.2.2.1, hF.2.2.2.2.2.2.2.2.2.2.2.2.2.2.1, hF.2.2.2.2.2.2.2.2.2.2.2.2.2.2.2.1, hF.2.2.2.2.2.2.2.2.2.2.2.2.2.2.2.2.1, hF.2.2.2.2.2.2.2.2.2.2.2.2.2.2.2.2.2.1, hF.2.2.2.2.2.2.2.2.2.2.2.2.2.2.2.2.2.2.1, hF.2.2.2.2.2.2.2.2.2.2.2.2.2.2.2.2.2.2.2.1, hF.2.2.2.2.2.2.2.2.2.2.2.2.2.2.2.2.2.2.2.2.1, hF.2.2.2.2.2.2.2.2.2.2.2.2.2.2.2.2.2.2.2.2.2.1, hF.2.2.2.2.2.2.2.2.2.2.2.2.2.2.2.2.2.2.2.2.2.2.1, hF.2.2.2.2.2.2.2.2.2.2.2.2.2.2.2.2.2.2.2.2.2.2.2.1, hF.2.2.2.2.2.2.2.2.2.2.2.2.2.2.2.2.2.2.2.2.2.2.2.2.1, hF.2.2.2.2.2.2.2.2.2.2.2.2.2.2.2.2.2.2.2.2.2.2.2.2.2.1, hF.2.2.2.2.2.2.2.2.2.2.2.2.2.2.2.2.2.2.2.2.2.2.2.2.2.2.1, hF.2.2.2.2.2.2.2.2.2.2.2.2.2.2.2.2.2.2.2.2.2.2.2.2.2.2.2.1, hF.2.2.2.2.2.2.2.2.2.2.2.2.2.2.2.2.2.2.2.2.2.2.2.2.2.2.2.2.1, hF.2.2.2.2.2.2.2.2.2.2.2.2.2.2.2.2.2.2.2.2.2.2.2.2.2.2.2.2.2⟩, hW⟩
    refine StepsI.cons rfl ?_ ?_
    · rintro L zA v9 ⟨zB, zS, qa0, qc0, qa1, qc1, qa2, qc2, qa3, qc3, rfl, rfl, hF, hW⟩ hL hm K hK
      have hb9 : zB 9 = false := by simpa using hL
      have hb6 : zB 6 = true := by cases e : zB 6 with | false => (exfalso; revert hm; simp [metB, Region.binds, e]) | true => rfl
      have e6 : zS 57 = .bool false := hF.2.2.2.2.2.2.1 hb6
      clear hL hm
      simp only [puts, Act.put, List.setIfInBounds_toArray, List.set_cons_zero, List.set_cons_succ]
      simp only [e6]
      obtain ⟨k0, k1⟩ := hB9 _ hW.1
      go_simp
      exact hK.out _ _ ⟨fun zj => if zj = 6 then true else if zj = 9 then true else zB zj, fun zd => if zd = 60 then .agg #[.int .i64 z', .slice ao' l'.length cp'] else if zd = 57 then .bool false else zS zd, qa0, qc0, qa1, qc1, qa2, qc2, qa3, qc3, by simp [hb6], by kernel_rfl, ⟨hF.1, hF.2.1, hF.2.2.1, hF.2.2.2.1, hF.2.2.2.2.1, hF.2.2.2.2.2.1, fun _ => rfl, hF.2.2.2.2.2.2.2.1, hF.2.2.2.2.2.2.2.2.1, fun _ => rfl, hF.2.2.2.2.2.2.2.2.2.2.1, hF.2.2.2.2.2.2.2.2.2.2.2.1, hF.2.2.2.2.2.2.2.2.2.2.2.2.1, hF.2.2.2.2.2.2.2.2.2.2.2.2.2.1, hF.2.2.2.2.2.2.2.2.2.2.2.2.2.2.1, hF.2.2.2.2.2.2.2.2.2.2.2.2.2.2.2.1, hF.2.2.2.2.2.2.2.2.2.2.2.2.2.2.2.2.1, hF.2.2.2.2.2.2.2.2.2.2.2.2.2.2.2.2.2.1, hF.2.2.2.2.2.2.2.2.2.2.2.2.2.2.2.2.2.2.1, hF.2.2.2.2.2.2.2.2.2.2.2.2.2.2.2.2.2.2.2.1, hF.2.2.2.2.2.2.2.2.2.2.2.2.2.2.2.2.2.2.2.2.1, hF.2.2.2.2.2.2.2.2.2.2.2.2.2.2.2.2.2.2.2.2.2.1, hF.2.2.2.2.2.2.2.2.2.2.2.2.2.2.2.2.2.2.2.2.2.2.1, hF.2.2.2.2.2.2.2.2.2.2.2.2.2.2.2.2.2.2.2.2.2.2.2.1, hF.2.2.2.2.2.2.2.2.2.2.2.2.2.2.2.2.2.2.2.2.2.2.2.2.1, hF.2.2.2.2.2.2.2.2.2.2.2.2.2.2.2.2.2.2.2.2.2.2.2.2.2.1, hF.2.2.2.2.2.2.2.2.2.2.2.2.2.2.2.2.2.2.2.2.2.2.2.2.2.2.1, hF.2.2.2.2.2.2.2.2.2.2.2.2.2.2.2.2.2.2.2.2.2.2.2.2.2.2.2.1, hF.2.2.2.2.2.2.2.2.2.2.2.2.2.2.2.2.2.2.2.2.2.2.2.2.2.2.2.2.1, hF.2.2.2.2.2.2.2.2.2.2.2.2.2.2.2.2.2.2.2.2.2.2.2.2.2.2.2.2.2⟩, hW⟩
    refine StepsI.cons rfl ?_ ?_
    · rintro L zA v9 ⟨zB, zS, qa0, qc0, qa1, qc1, qa2, qc2, qa3, qc3, rfl, rfl, hF, hW⟩ hL hm K hK
      have hb10 : zB 10 = false := by simpa using hL
      have hb6 : zB 6 = true := by cases e : zB 6 with | false => (exfalso; revert hm; simp [metB, Region.binds, e]) | true => rfl
      have hb8 : zB 8 = true := by cases e : zB 8 with | false => (exfalso; revert hm; simp [metB, Region.binds, e]) | true => rfl
      have hb9 : zB 9 = true := by cases e : zB 9 with | false => (exfalso; revert hm; simp [metB, Region.binds, e]) | true => rfl
      have e6 : zS 57 = .bool false := hF.2.2.2.2.2.2.1 hb6
      have e8 : zS 59 = .agg #[.int .i64 z, .slice ao l.length cp] := hF.2.2.2.2.2.2.2.2.1 hb8
      have e9 : zS 60 = .agg #[.int .i64 z', .slice ao' l'.length cp'] := hF.2.2.2.2.2.2.2.2.2.1 hb9
      clear hL hm
      rw [hb10] at hW
      simp only [puts, Act.put, List.setIfInBounds_toArray, List.set_cons_zero, List.set_cons_succ]
      simp only [e6, e8, e9]
      go_simp
      refine (C15.out _ (LA.out.below hW.1) (LB.out.below hW.1)).mono ?_
      rintro e v92 ⟨qa9, qc9, rfl, hO2, hb⟩
      go_wp2_with fail
      exact hK.out _ _ ⟨fun zj => if zj = 9 then true else if zj = 8 then true else if zj = 6 then true else if zj = 10 then true else zB zj, fun zd => if zd = 61 then .agg #[.int .i64 zm, .slice qa9 lm.length qc9] else if zd = 60 then .agg #[.int .i64 z', .slice ao' l'.length cp'] else if zd = 59 then .agg #[.int .i64 z, .slice ao l.length cp] else if zd = 57 then .bool false else zS zd, qa0, qc0, qa9, qc9, qa2, qc2, qa3, qc3, by simp [hb6, hb8, hb9], by kernel_rfl, ⟨hF.1, hF.2.1, hF.2.2.1, hF.2.2.2.1, hF.2.2.2.2.1, hF.2.2.2.2.2.1, fun _ => rfl, hF.2.2.2.2.2.2.2.1, fun _ => rfl, fun _ => rfl, fun _ => rfl, hF.2.2.2.2.2.2.2.2.2.2.2.1, hF.2.2.2.2.2.2.2.2.2.2.2.2.1, hF.2.2.2.2.2.2.2.2.2.2.2.2.2.1, hF.2.2.2.2.2.2.2.2.2.2.2.2.2.2.1, hF.2.2.2.2.2.2.2.2.2.2.2.2.2.2.2.1, hF.2.2.2.2.2.2.2.2.2.2.2.2.2.2.2.2.1, hF.2.2.2.2.2.2.2.2.2.2.2.2.2.2.2.2.2.1, hF.2.2.2.2.2.2.2.2.2.2.2.2.2.2.2.2.2.2.1, hF.2.2.2.2.2.2.2.2.2.2.2.2.2.2.2.2.2.2.2.1, hF.2.2.2.2.2.2.2.2.2.2.2.2.2.2.2.2.2.2.2.2.1, hF.2.2.2.2.2.2.2.2.2.2.2.2.2.2.2.2.2.2.2.2.2.1, hF.2.2.2.2.2.2.2.2.2.2.2.2.2.2.2.2.2.2.2.2.2.2.1, hF.2.2.2.2.2.2.2.2.2.2.2.2.2.2.2.2.2.2.2.2.2.2.2.1, hF.2.2.2.2.2.2.2.2.2.2.2.2.2.2.2.2.2.2.2.2.2.2.2.2.1, hF.2.2.2.2.2.2.2.2.2.2.2.2.2.2.2.2.2.2.2.2.2.2.2.2.2.1, hF.2.2.2.2.2.2.2.2.2.2.2.2.2.2.2.2.2.2.2.2.2.2.2.2.2.2.1, hF.2.2.2.2.2.2.2.2.2.2.2.2.2.2.2.2.2.2.2.2.2.2.2.2.2.2.2.1, hF.2.2.2.2.2.2.2.2.2.2.2.2.2.2.2.2.2.2.2.2.2.2.2.2.2.2.2.2.1, hF.2.2.2.2.2.2.2.2.2.2.2.2.2.2.2.2.2.2.2.2.2.2.2.2.2.2.2.2.2⟩, ⟨below_step hW.1 hb, fun q => (hW.2.1 q).below hb, fun _ => hO2.at, fun q => (hW.2.2.2.1 q).below hb, fun q => (hW.2.2.2.2 q).below hb⟩⟩
    refine StepsI.cons rfl ?_ ?_
    · rintro L zA v9 ⟨zB, zS, qa0, qc0, qa1, qc1, qa2, qc2, qa3, qc3, rfl, rfl, hF, hW⟩ hL hm K hK
      have hb11 : zB 11 = false := by simpa using hL
      have hb6 : zB 6 = true := by cases e : zB 6 with | false => (exfalso; revert hm; simp [metB, Region.binds, e]) | true => rfl
      have hb7 : zB 7 = true := by cases e : zB 7 with | false => (exfalso; revert hm; simp [metB, Region.binds, e]) | true => rfl
      have hb10 : zB 10 = true := by cases e : zB 10 with | false => (exfalso; revert hm; simp [metB, Region.binds, e]) | true => rfl
      have e6 : zS 57 = .bool false := hF.2.2.2.2.2.2.1 hb6
      have e7 : zS 58 = .agg #[.int .i64 zm, .slice aM lm.length cM] := hF.2.2.2.2.2.2.2.1 hb7
      have e10 : zS 61 = .agg #[.int .i64 zm, .slice qa1 lm.length qc1] := hF.2.2.2.2.2.2.2.2.2.2.1 hb10
      clear hL hm
      rw [hb10] at hW
      simp only [puts, Act.put, List.setIfInBounds_toArray, List.set_cons_zero, List.set_cons_succ]
      simp only [e6, e7, e10]
      go_simp
      refine (sameFacts_ok zm lm _ _ _ _ _ HLM.out (LM.out.below hW.1) (hW.2.2.1 (by first | rfl | trivial))).mono ?_
      rintro e v92 ⟨rfl, hb⟩
      go_wp2_with fail
      exact hK.out _ _ ⟨fun zj => if zj = 10 then true else if zj = 7 then true else if zj = 6 then true else if zj = 11 then true else zB zj, fun zd => if zd = 62 then .bool true else if zd = 61 then .agg #[.int .i64 zm, .slice qa1 lm.length qc1] else if zd = 58 then .agg #[.int .i64 zm, .slice aM lm.length cM] else if zd = 57 then .bool false else zS zd, qa0, qc0, qa1, qc1, qa2, qc2, qa3, qc3, by simp [hb6, hb7, hb10], by kernel_rfl, ⟨hF.1, hF.2.1, hF.2.2.1, hF.2.2.2.1, hF.2.2.2.2.1, hF.2.2.2.2.2.1, fun _ => rfl, fun _ => rfl, hF.2.2.2.2.2.2.2.2.1, hF.2.2.2.2.2.2.2.2.2.1, fun _ => rfl, fun _ => rfl, hF.2.2.2.2.2.2.2.2.2.2.2.2.1, hF.2.2.2.2.2.2.2.2.2.2.2.2.2.1, hF.2.2.2.2.2.2.2.2.2.2.2.2.2.2.1, hF.2.2.2.2.2.2.2.2.2.2.2.2.2.2.2.1, hF.2.2.2.2.2.2.2.2.2.2.2.2.2.2.2.2.1, hF.2.2.2.2.2.2.2.2.2.2.2.2.2.2.2.2.2.1, hF.2.2.2.2.2.2.2.2.2.2.2.2.2.2.2.2.2.2.1, hF.2.2.2.2.2.2.2.2.2.2.2.2.2.2.2.2.2.2.2.1, hF.2.2.2.2.2.2.2.2.2.2.2.2.2.2.2.2.2.2.2.2.1, hF.2.2.2.2.2.2.2.2.2.2.2.2.2.2.2.2.2.2.2.2.2.1, hF.2.2.2.2.2.2.2.2.2.2.2.2.2.2.2.2.2.2.2.2.2.2.1, hF.2.2.2.2.2.2.2.2.2.2.2.2.2.2.2.2.2.2.2.2.2.2.2.1, hF.2.2.2.2.2.2.2.2.2.2.2.2.2.2.2.2.2.2.2.2.2.2.2.2.1, hF.2.2.2.2.2.2.2.2.2.2.2.2.2.2.2.2.2.2.2.2.2.2.2.2.2.1, hF.2.2.2.2.2.2.2.2.2.2.2.2.2.2.2.2.2.2.2.2.2.2.2.2.2.2.1, hF.2.2.2.2.2.2.2.2.2.2.2.2.2.2.2.2.2.2.2.2.2.2.2.2.2.2.2.1, hF.2.2.2.2.2.2.2.2.2.2.2.2.2.2.2.2.2.2.2.2.2.2.2.2.2.2.2.2.1, hF.2.2.2.2.2.2.2.2.2.2.2.2.2.2.2.2.2.2.2.2.2.2.2.2.2.2.2.2.2⟩, ⟨below_step hW.1 hb, fun q => (hW.2.1 q).below hb, fun _ => (hW.2.2.1 (by first | rfl | trivial)).below hb, fun q => (hW.2.2.2.1 q).below hb, fun q => (hW.2.2.2.2 q).below hb⟩⟩
    refine StepsI.cons rfl ?_ ?_
    · rintro L zA v9 ⟨zB, zS, qa0, qc0, qa1, qc1, qa2, qc2, qa3, qc3, rfl, rfl, hF, hW⟩ hL hm K hK
      have hb12 : zB 12 = false := by simpa using hL
      have hb6 : zB 6 = true := by cases e : zB 6 with | false => (exfalso; revert hm; simp [metB, Region.binds, e]) | true => rfl
      have hb11 : zB 11 = true := by cases e : zB 11 with | false => (exfalso; revert hm; simp [metB, Region.binds, e]) | true => rfl
      have e6 : zS 57 = .bool false := hF.2.2.2.2.2.2.1 hb6
      have e11 : zS 62 = .bool true := hF.2.2.2.2.2.2.2.2.2.2.2.1 hb11
      clear hL hm
      simp only [puts, Act.put, List.setIfInBounds_toArray, List.set_cons_zero, List.set_cons_succ]
      simp only [e6, e11]
      go_simp
      exact hK.out _ _ ⟨fun zj => if zj = 11 then true else if zj = 6 then true else if zj = 12 then true else zB zj, fun zd => if zd = 63 then .bool false else if zd = 62 then .bool true else if zd = 57 then .bool false else zS zd, qa0, qc0, qa1, qc1, qa2, qc2, qa3, qc3, by simp [hb6, hb11], by kernel_rfl, ⟨hF.1, hF.2.1, hF.2.2.1, hF.2.2.2.1, hF.2.2.2.2.1, hF.2.2.2.2.2.1, fun _ => rfl, hF.2.2.2.2.2.2.2.1, hF.2.2.2.2.2.2.2.2.1, hF.2.2.2.2.2.2.2.2.2.1, hF.2.2.2.2.2.2.2.2.2.2.1, fun _ => rfl, fun _ => rfl, hF.2.2.2.2.2.2.2.2.2.2.2.2.2.1, hF.2.2.2.2.2.2.2.2.2.2.2.2.2.2.1, hF.2.2.2.2.2.2.2.2.2.2.2.2.2.2.2.1, hF.2.2.2.2.2.2.2.2.2.2.2.2.2.2.2.2.1, hF.2.2.2.2.2.2.2.2.2.2.2.2.2.2.2.2.2.1, hF.2.2.2.2.2.2.2.2.2.2.2.2.2.2.2.2.2.2.1, hF.2.2.2.2.2.2.2.2.2.2.2.2.2.2.2.2.2.2.2.1, hF.2.2.2.2.2.2.2.2.2.2.2.2.2.2.2.2.2.2.2.2.1, hF.2.2.2.2.2.2.2.2.2.2.2.2.2.2.2.2.2.2.2.2.2.1, hF.2.2.2.2.2.2.2.2.2.2.2.2.2.2.2.2.2.2.2.2.2.2.1, hF.2.2.2.2.2.2.2.2.2.2.2.2.2.2.2.2.2.2.2.2.2.2.2.1, hF.2.2.2.2.2.2.2.2.2.2.2.2.2.2.2.2.2.2.2.2.2.2.2.2.1, hF.2.2.2.2.2.2.2.2.2.2.2.2.2.2.2.2.2.2.2.2.2.2.2.2.2.1, hF.2.2.2.2.2.2.2.2.2.2.2.2.2.2.2.2.2.2.2.2.2.2.2.2.2.2.1, hF.2.2.2.2.2.2.2.2.2.2.2.2.2.2.2.2.2.2.2.2.2.2.2.2.2.2.2.1, hF.2.2.2.2.2.2.2.2.2.2.2.2.2.2.2.2.2.2.2.2.2.2.2.2.2.2.2.2.1, hF.2.2.2.2.2.2.2.2.2.2.2.2.2.2.2.2.2.2.2.2.2.2.2.2.2.2.2.2.2⟩, hW⟩
    refine StepsI.cons rfl ?_ ?_
    · rintro L zA v9 ⟨zB, zS, qa0, qc0, qa1, qc1, qa2, qc2, qa3, qc3, rfl, rfl, hF, hW⟩ hL hm K hK
      have hb13 : zB 13 = false := by simpa using hL
      have hb6 : zB 6 = true := by cases e : zB 6 with | false => (exfalso; revert hm; simp [metB, Region.binds, e]) | true => rfl
      have hb12 : zB 12 = true := by cases e : zB 12 with | false => (exfalso; revert hm; simp [metB, Region.binds, e]) | true => rfl
      have e6 : zS 57 = .bool false := hF.2.2.2.2.2.2.1 hb6
      have e12 : zS 63 = .bool false := hF.2.2.2.2.2.2.2.2.2.2.2.2.1 hb12
      clear hL hm
      simp only [puts, Act.put, List.setIfInBounds_toArray, List.set_cons_zero, List.set_cons_succ]
      simp only [e6, e12]
      go_simp
      exact hK.out _ _ ⟨fun zj => if zj = 12 then true else if zj = 6 then true else if zj = 13 then true else zB zj, fun zd => if zd = 64 then .bool false else if zd = 63 then .bool false else if zd = 57 then .bool false else zS zd, qa0, qc0, qa1, qc1, qa2, qc2, qa3, qc3, by simp [hb6, hb12], by kernel_rfl, ⟨hF.1, hF.2.1, hF.2.2.1, hF.2.2.2.1, hF.2.2.2.2.1, hF.2.2.2.2.2.1, fun _ => rfl, hF.2.2.2.2.2.2.2.1, hF.2.2.2.2.2.2.2.2.1, hF.2.2.2.2.2.2.2.2.2.1, hF.2.2.2.2.2.2.2.2.2.2.1, hF.2.2.2.2.2.2.2.2.2.2.2.1, fun _ => rfl, fun _ => rfl, hF.2.2.2.2.2.2.2.2.2.2.2.2.2.2.1, hF.2.2.2.2.2.2.2.2.2.2.2.2.2.2.2.1, hF.2.2.2.2.2.2.2.2.2.2.2.2.2.2.2.2.1, hF.2.2.2.2.2.2.2.2.2.2.2.2.2.2.2.2.2.1, hF.2.2.2.2.2.2.2.2.2.2.2.2.2.2.2.2.2.2.1, hF.2.2.2.2.2.2.2.2.2.2.2.2.2.2.2.2.2.2.2.1, hF.2.2.2.2.2.2.2.2.2.2.2.2.2.2.2.2.2.2.2.2.1, hF.2.2.2.2.2.2.2.2.2.2.2.2.2.2.2.2.2.2.2.2.2.1, hF.2.2.2.2.2.2.2.2.2.2.2.2.2.2.2.2.2.2.2.2.2.2.1, hF.2.2.2.2.2.2.2.2.2.2.2.2.2.2.2.2.2.2.2.2.2.2.2.1, hF.2.2.2.2.2.2.2.2.2.2.2.2.2.2.2.2.2.2.2.2.2.2.2.2.1, hF.2.2.2.2.2.2.2.2.2.2.2.2.2.2.2.2.2.2.2.2.2.2.2.2.2.1, hF.2.2.2.2.2.2.2.2.2.2.2.2.2.2.2.2.2.2.2.2.2.2.2.2.2.2.1, hF.2.2.2.2.2.2.2.2.2.2.2.2.2.2.2.2.2.2.2.2.2.2.2.2.2.2.2.1, hF.2.2.2.2.2.2.2.2.2.2.2.2.2.2.2.2.2.2.2.2.2.2.2.2.2.2.2.2.1, hF.2.2.2.2.2.2.2.2.2.2.2.2.2.2.2.2.2.2.2.2.2.2.2.2.2.2.2.2.2⟩, hW⟩
    refine StepsI.cons rfl ?_ ?_
    · rintro L zA v9 ⟨zB, zS, qa0, qc0, qa1, qc1, qa2, qc2, qa3, qc3, rfl, rfl, hF, hW⟩ hL hm K hK
      have hb14 : zB 14 = false := by simpa using hL
      have hb13 : zB 13 = true := by cases e : zB 13 with | false => (exfalso; revert hm; simp [metB, Region.binds, e]) | true => rfl
      have e13 : zS 64 = .bool false := hF.2.2.2.2.2.2.2.2.2.2.2.2.2.1 hb13
      clear hL hm
      simp only [puts, Act.put, List.setIfInBounds_toArray, List.set_cons_zero, List.set_cons_succ]
      simp only [e13]
      go_simp
      exact hK.out _ _ ⟨fun zj => if zj = 13 then true else if zj = 14 then true else zB zj, fun zd => if zd = 65 then .bool false else if zd = 64 then .bool false else zS zd, qa0, qc0, qa1, qc1, qa2, qc2, qa3, qc3, by simp [hb13], by kernel_rfl, ⟨hF.1, hF.2.1, hF.2.2.1, hF.2.2.2.1, hF.2.2.2.2.1, hF.2.2.2.2.2.1, hF.2.2.2.2.2.2.1, hF.2.2.2.2.2.2.2.1, hF.2.2.2.2.2.2.2.2.1, hF.2.2.2.2.2.2.2.2.2.1, hF.2.2.2.2.2.2.2.2.2.2.1, hF.2.2.2.2.2.2.2.2.2.2.2.1, hF.2.2.2.2.2.2.2.2.2.2.2.2.1, fun _ => rfl, fun _ => rfl, hF.2.2.2.2.2.2.2.2.2.2.2.2.2.2.2.1, hF.2.2.2.2.2.2.2.2.2.2.2.2.2.2.2.2.1, hF.2.2.2.2.2.2.2.2.2.2.2.2.2.2.2.2.2.1, hF.2.2.2.2.2.2.2.2.2.2.2.2.2.2.2.2.2.2.1, hF.2.2.2.2.2.2.2.2.2.2.2.2.2.2.2.2.2.2.2.1, hF.2.2.2.2.2.2.2.2.2.2.2.2.2.2.2.2.2.2.2.2.1, hF.2.2.2.2.2.2.2.2.2.2.2.2.2.2.2.2.2.2.2.2.2.1, hF.2.2.2.2.2.2.2.2.2.2.2.2.2.2.2.2.2.2.2.2.2.2.1, hF.2.2.2.2.2.2.2.2.2.2.2.2.2.2.2.2.2.2.2.2.2.2.2.1, hF.2.2.2.2.2.2.2.2.2.2.2.2.2.2.2.2.2.2.2.2.2.2.2.2.1, hF.2.2.2.2.2.2.2.2.2.2.2.2.2.2.2.2.2.2.2.2.2.2.2.2.2.1, hF.2.2.2.2.2.2.2.2.2.2.2.2.2.2.2.2.2.2.2.2.2.2.2.2.2.2.1, hF.2.2.2.2.2.2.2.2.2.2.2.2.2.2.2.2.2.2.2.2.2.2.2.2.2.2.2.1, hF.2.2.2.2.2.2.2.2.2.2.2.2.2.2.2.2.2.2.2.2.2.2.2.2.2.2.2.2.1, hF.2.2.2.2.2.2.2.2.2.2.2.2.2.2.2.2.2.2.2.2.2.2.2.2.2.2.2.2.2⟩, hW⟩
    refine StepsI.cons rfl ?_ ?_
    · rintro L zA v9 ⟨zB, zS, qa0, qc0, qa1, qc1, qa2, qc2, qa3, qc3, rfl, rfl, hF, hW⟩ hL hm K hK
      have hb15 : zB 15 = false := by simpa using hL
      have hb14 : zB 14 = true := by cases e : zB 14 with | false => (exfalso; revert hm; simp [metB, Region.binds, e]) | true => rfl
      have e14 : zS 65 = .bool false := hF.2.2.2.2.2.2.2.2.2.2.2.2.2.2.1 hb14
      clear hL hm
      simp only [puts, Act.put, List.setIfInBounds_toArray, List.set_cons_zero, List.set_cons_succ]
      simp only [e14]
      obtain ⟨k0, k1⟩ := hW9 _ hW.1
      go_simp
      exact hK.out _ _ ⟨fun zj => if zj = 14 then true else if zj = 15 then true else zB zj, fun zd => if zd = 66 then .agg #[.int .i64 zw, .slice aW lw.length cW] else if zd = 65 then .bool false else zS zd, qa0, qc0, qa1, qc1, qa2, qc2, qa3, qc3, by simp [hb14], by kernel_rfl, ⟨hF.1, hF.2.1, hF.2.2.1, hF.2.2.2.1, hF.2.2.2.2.1, hF.2.2.2.2.2.1, hF.2.2.2.2.2.2.1, hF.2.2.2.2.2.2.2.1, hF.2.2.2.2.2.2.2.2.1, hF.2.2.2.2.2.2.2.2.2.1, hF.2.2.2.2.2.2.2.2.2.2.1, hF.2.2.2.2.2.2.2.2.2.2.2.1, hF.2.2.2.2.2.2.2.2.2.2.2.2.1, hF.2.2.2.2.2.2.2.2.2.2.2.2.2.1, fun _ => rfl, fun _ => rfl, hF.2.2.2.2.2.2.2.2.2.2.2.2.2.2.2.2.1, hF.2.2.2.2.2.2.2.2.2.2.2.2.2.2.2.2.2.1, hF.2.2.2.2.2.2.2.2.2.2.2.2.2.2.2.2.2.2.1, hF.2.2.2.2.2.2.2.2.2.2.2.2.2.2.2.2.2.2.2.1, hF.2.2.2.2.2.2.2.2.2.2.2.2.2.2.2.2.2.2.2.2.1, hF.2.2.2.2.2.2.2.2.2.2.2.2.2.2.2.2.2.2.2.2.2.1, hF.2.2.2.2.2.2.2.2.2.2.2.2.2.2.2.2.2.2.2.2.2.2.1, hF.2.2.2.2.2.2.2.2.2.2.2.2.2.2.2.2.2.2.2.2.2.2.2.1, hF.2.2.2.2.2.2.2.2.2.2.2.2.2.2.2.2.2.2.2.2.2.2.2.2.1, hF.2.2.2.2.2.2.2.2.2.2.2.2.2.2.2.2.2.2.2.2.2.2.2.2.2.1, hF.2.2.2.2.2.2.2.2.2.2.2.2.2.2.2.2.2.2.2.2.2.2.2.2.2.2.1, hF.2.2.2.2.2.2.2.2.2.2.2.2.2.2.2.2.2.2.2.2.2.2.2.2.2.2.2.1, hF.2.2.2.2.2.2.2.2.2.2.2.2.2.2.2.2.2.2.2.2.2.2.2.2.2.2.2.2.1, hF.2.2.2.2.2.2.2.2.2.2.2.2.2.2.2.2.2.2.2.2.2.2.2.2.2.2.2.2.2⟩, hW⟩
    refine StepsI.cons rfl ?_ ?_
    · rintro L zA v9 ⟨zB, zS, qa0, qc0, qa1, qc1, qa2, qc2, qa3, qc3, rfl, rfl, hF, hW⟩ hL hm K hK
      have hb16 : zB 16 = false := by simpa using hL
      have hb14 : zB 14 = true := by cases e : zB 14 with | false => (exfalso; revert hm; simp [metB, Region.binds, e]) | true => rfl
      have e14 : zS 65 = .bool false := hF.2.2.2.2.2.2.2.2.2.2.2.2.2.2.1 hb14
      clear hL hm
      simp only [puts, Act.put, List.setIfInBounds_toArray, List.set_cons_zero, List.set_cons_succ]
      simp only [e14]
      obtain ⟨k0, k1⟩ := hA9 _ hW.1
      go_simp
      exact hK.out _ _ ⟨fun zj => if zj = 14 then true else if zj = 16 then true else zB zj, fun zd => if zd = 67 then .agg #[.int .i64 z, .slice ao l.length cp] else if zd = 65 then .bool false else zS zd, qa0, qc0, qa1, qc1, qa2, qc2, qa3, qc3, by simp [hb14], by kernel_rfl, ⟨hF.1, hF.2.1, hF.2.2.1, hF.2.2.2.1, hF.2.2.2.2.1, hF.2.2.2.2.2.1, hF.2.2.2.2.2.2.1, hF.2.2.2.2.2.2.2.1, hF.2.2.2.2.2.2.2.2.1, hF.2.2.2.2.2.2.2.2.2.1, hF.2.2.2.2.2.2.2.2.2.2.1, hF.2.2.2.2.2.2.2.2.2.2.2.1, hF.2.2.2.2.2.2.2.2.2.2.2.2.1, hF.2.2.2.2.2.2.2.2.2.2.2.2.2.1, fun _ => rfl, hF.2.2.2.2.2.2.2.2.2.2.2.2.2.2.2.1, fun _ => rfl, hF.2.2.2.2.2.2.2.2.2.2.2.2.2.2.2.2.2.1, hF.2.2.2.2.2.2.2.2.2.2.2.2.2.2.2.2.2.2.1, hF.2.2.2.2.2.2.2.2.2.2.2.2.2.2.2.2.2.2.2.1, hF.2.2.2.2.2.2.2.2.2.2.2.2.2.2.2.2.2.2.2.2.1, hF.2.2.2.2.2.2.2.2.2.2.2.2.2.2.2.2.2.2.2.2.2.1, hF.2.2.2.2.2.2.2.2.2.2.2.2.2.2.2.2.2.2.2.2.2.2.1, hF.2.2.2.2.2.2.2.2.2.2.2.2.2.2.2.2.2.2.2.2.2.2.2.1, hF.2.2.2.2.2.2.2.2.2.2.2.2.2.2.2.2.2.2.2.2.2.2.2.2.1, hF.2.2.2.2.2.2.2.2.2.2.2.2.2.2.2.2.2.2.2.2.2.2.2.2.2.1, hF.2.2.2.2.2.2.2.2.2.2.2.2.2.2.2.2.2.2.2.2.2.2.2.2.2.2.1, hF.2.2.2.2.2.2.2.2.2.2.2.2.2.2.2.2.2.2.2.2.2.2.2.2.2.2.2.1, hF.2.2.2.2.2.2.2.2.2.2.2.2.2.2.2.2.2.2.2.2.2.2.2.2.2.2.2.2.1, hF.2.2.2.2.2.2.2.2.2.2.2.2.2.2.2.2.2.2.2.2.2.2.2.2.2.2.2.2.2⟩, hW⟩
    refine StepsI.cons rfl ?_ ?_
    · rintro L zA v9 ⟨zB, zS, qa0, qc0, qa1, qc1, qa2, qc2, qa3, qc3, rfl, rfl, hF, hW⟩ hL hm K hK
      have hb17 : zB 17 = false := by simpa using hL
      have hb14 : zB 14 = true := by cases e : zB 14 with | false => (exfalso; revert hm; simp [metB, Region.binds, e]) | true => rfl
      have e14 : zS 65 = .bool false := hF.2.2.2.2.2.2.2.2.2.2.2.2.2.2.1 hb14
      clear hL hm
      simp only [puts, Act.put, List.setIfInBounds_toArray, List.set_cons_zero, List.set_cons_succ]
      simp only [e14]
      obtain ⟨k0, k1⟩ := hB9 _ hW.1
      go_simp
      exact hK.out _ _ ⟨fun zj => if zj = 14 then true else if zj = 17 then true else zB zj, fun zd => if zd = 68 then .agg #[.int .i64 z', .slice ao' l'.length cp'] else if zd = 65 then .bool false else zS zd, qa0, qc0, qa1, qc1, qa2, qc2, qa3, qc3, by simp [hb14], by kernel_rfl, ⟨hF.1, hF.2.1, hF.2.2.1, hF.2.2.2.1, hF.2.2.2.2.1, hF.2.2.2.2.2.1, hF.2.2.2.2.2.2.1, hF.2.2.2.2.2.2.2.1, hF.2.2.2.2.2.2.2.2.1, hF.2.2.2.2.2.2.2.2.2.1, hF.2.2.2.2.2.2.2.2.2.2.1, hF.2.2.2.2.2.2.2.2.2.2.2.1, hF.2.2.2.2.2.2.2.2.2.2.2.2.1, hF.2.2.2.2.2.2.2.2.2.2.2.2.2.1, fun _ => rfl, hF.2.2.2.2.2.2.2.2.2.2.2.2.2.2.2.1, hF.2.2.2.2.2.2.2.2.2.2.2.2.2.2.2.2.1, fun _ => rfl, hF.2.2.2.2.2.2.2.2.2.2.2.2.2.2.2.2.2.2.1, hF.2.2.2.2.2.2.2.2.2.2.2.2.2.2.2.2.2.2.2.1, hF.2.2.2.2.2.2.2.2.2.2.2.2.2.2.2.2.2.2.2.2.1, hF.2.2.2.2.2.2.2.2.2.2.2.2.2.2.2.2.2.2.2.2.2.1, hF.2.2.2.2.2.2.2.2.2.2.2.2.2.2.2.2.2.2.2.2.2.2.1, hF.2.2.2.2.2.2.2.2.2.2.2.2.2.2.2.2.2.2.2.2.2.2.2.1, hF.2.2.2.2.2.2.2.2.2.2.2.2.2.2.2.2.2.2.2.2.2.2.2.2.1, hF.2.2.2.2.2.2.2.2.2.2.2.2.2.2.2.2.2.2.2.2.2.2.2.2.2.1, hF.2.2.2.2.2.2.2.2.2.2.2.2.2.2.2.2.2.2.2.2.2.2.2.2.2.2.1, hF.2.2.2.2.2.2.2.2.2.2.2.2.2.2.2.2.2.2.2.2.2.2.2.2.2.2.2.1, hF.2.2.2.2.2.2.2.2.2.2.2.2.2.2.2.2.2.2.2.2.2.2.2.2.2.2.2.2.1, hF.2.2.2.2.2.2.2.2.2.2.2.2.2.2.2.2.2.2.2.2.2.2.2.2.2.2.2.2.2⟩, hW⟩
    refine StepsI.cons rfl ?_ ?_
    · rintro L zA v9 ⟨zB, zS, qa0, qc0, qa1, qc1, qa2, qc2, qa3, qc3, rfl, rfl, hF, hW⟩ hL hm K hK
      have hb18 : zB 18 = false := by simpa using hL
      have hb14 : zB 14 = true := by cases e : zB 14 with | false => (exfalso; revert hm; simp [metB, Region.binds, e]) | true => rfl
      have e14 : zS 65 = .bool false := hF.2.2.2.2.2.2.2.2.2.2.2.2.2.2.1 hb14
      clear hL hm
      simp only [puts, Act.put, List.setIfInBounds_toArray, List.set_cons_zero, List.set_cons_succ]
      simp only [e14]
      go_simp
      exact hK.out _ _ ⟨fun zj => if zj = 14 then true else if zj = 18 then true else zB zj, fun zd => if zd = 69 then .slice (some ⟨gs, 0, none⟩) st.length cs else if zd = 65 then .bool false else zS zd, qa0, qc0, qa1, qc1, qa2, qc2, qa3, qc3, by simp [hb14], by kernel_rfl, ⟨hF.1, hF.2.1, hF.2.2.1, hF.2.2.2.1, hF.2.2.2.2.1, hF.2.2.2.2.2.1, hF.2.2.2.2.2.2.1, hF.2.2.2.2.2.2.2.1, hF.2.2.2.2.2.2.2.2.1, hF.2.2.2.2.2.2.2.2.2.1, hF.2.2.2.2.2.2.2.2.2.2.1, hF.2.2.2.2.2.2.2.2.2.2.2.1, hF.2.2.2.2.2.2.2.2.2.2.2.2.1, hF.2.2.2.2.2.2.2.2.2.2.2.2.2.1, fun _ => rfl, hF.2.2.2.2.2.2.2.2.2.2.2.2.2.2.2.1, hF.2.2.2.2.2.2.2.2.2.2.2.2.2.2.2.2.1, hF.2.2.2.2.2.2.2.2.2.2.2.2.2.2.2.2.2.1, fun _ => rfl, hF.2.2.2.2.2.2.2.2.2.2.2.2.2.2.2.2.2.2.2.1, hF.2.2.2.2.2.2.2.2.2.2.2.2.2.2.2.2.2.2.2.2.1, hF.2.2.2.2.2.2.2.2.2.2.2.2.2.2.2.2.2.2.2.2.2.1, hF.2.2.2.2.2.2.2.2.2.2.2.2.2.2.2.2.2.2.2.2.2.2.1, hF.2.2.2.2.2.2.2.2.2.2.2.2.2.2.2.2.2.2.2.2.2.2.2.1, hF.2.2.2.2.2.2.2.2.2.2.2.2.2.2.2.2.2.2.2.2.2.2.2.2.1, hF.2.2.2.2.2.2.2.2.2.2.2.2.2.2.2.2.2.2.2.2.2.2.2.2.2.1, hF.2.2.2.2.2.2.2.2.2.2.2.2.2.2.2.2.2.2.2.2.2.2.2.2.2.2.1, hF.2.2.2.2.2.2.2.2.2.2.2.2.2.2.2.2.2.2.2.2.2.2.2.2.2.2.2.1, hF.2.2.2.2.2.2.2.2.2.2.2.2.2.2.2.2.2.2.2.2.2.2.2.2.2.2.2.2.1, hF.2.2.2.2.2.2.2.2.2.2.2.2.2.2.2.2.2.2.2.2.2.2.2.2.2.2.2.2.2⟩, hW⟩
    refine StepsI.cons rfl ?_ ?_
    · rintro L zA v9 ⟨zB, zS, qa0, qc0, qa1, qc1, qa2, qc2, qa3, qc3, rfl, rfl, hF, hW⟩ hL hm K hK
      have hb19 : zB 19 = false := by simpa using hL
      have hb14 : zB 14 = true := by cases e : zB 14 with | false => (exfalso; revert hm; simp [metB, Region.binds, e]) | true => rfl
      have hb16 : zB 16 = true := by cases e : zB 16 with | false => (exfalso; revert hm; simp [metB, Region.binds, e]) | true => rfl
      have hb17 : zB 17 = true := by cases e : zB 17 with | false => (exfalso; revert hm; simp [metB, Region.binds, e]) | true => rfl
      have hb18 : zB 18 = true := by cases e : zB 18 with | false => (exfalso; revert hm; simp [metB, Region.binds, e]) | true => rfl
      have e14 : zS 65 = .bool false := hF.2.2.2.2.2.2.2.2.2.2.2.2.2.2.1 hb14
      have e16 : zS 67 = .agg #[.int .i64 z, .slice ao l.length cp] := hF.2.2.2.2.2.2.2.2.2.2.2.2.2.2.2.2.1 hb16
      have e17 : zS 68 = .agg #[.int .i64 z', .slice ao' l'.length cp'] := hF.2.2.2.2.2.2.2.2.2.2.2.2.2.2.2.2.2.1 hb17
      have e18 : zS 69 = .slice (some ⟨gs, 0, none⟩) st.length cs := hF.2.2.2.2.2.2.2.2.2.2.2.2.2.2.2.2.2.2.1 hb18
      clear hL hm
      rw [hb19] at hW
      simp only [puts, Act.put, List.setIfInBounds_toArray, List.set_cons_zero, List.set_cons_succ]
      simp only [e14, e16, e17, e18]
      go_simp
      refine (C16.out _ (LA.out.below hW.1) (LB.out.below hW.1) (IS.out.below hW.1)).mono ?_
      rintro e v92 ⟨qa9, qc9, rfl, hO2, hb⟩
      go_wp2_with fail
      exact hK.out _ _ ⟨fun zj => if zj = 18 then true else if zj = 17 then true else if zj = 16 then true else if zj = 14 then true else if zj = 19 then true else zB zj, fun zd => if zd = 70 then .agg #[.int .i64 zw, .slice qa9 lw.length qc9] else if zd = 69 then .slice (some ⟨gs, 0, none⟩) st.length cs else if zd = 68 then .agg #[.int .i64 z', .slice ao' l'.length cp'] else if zd = 67 then .agg #[.int .i64 z, .slice ao l.length cp] else if zd = 65 then .bool false else zS zd, qa0, qc0, qa1, qc1, qa9, qc9, qa3, qc3, by simp [hb14, hb16, hb17, hb18], by kernel_rfl, ⟨hF.1, hF.2.1, hF.2.2.1, hF.2.2.2.1, hF.2.2.2.2.1, hF.2.2.2.2.2.1, hF.2.2.2.2.2.2.1, hF.2.2.2.2.2.2.2.1, hF.2.2.2.2.2.2.2.2.1, hF.2.2.2.2.2.2.2.2.2.1, hF.2.2.2.2.2.2.2.2.2.2.1, hF.2.2.2.2.2.2.2.2.2.2.2.1, hF.2.2.2.2.2.2.2.2.2.2.2.2.1, hF.2.2.2.2.2.2.2.2.2.2.2.2.2.1, fun _ => rfl, hF.2.2.2.2.2.2.2.2.2.2.2.2.2.2.2.1, fun _ => rfl, fun _ => rfl, fun _ => rfl, fun _ => rfl, hF.2.2.2.2.2.2.2.2.2.2.2.2.2.2.2.2.2.2.2.2.1, hF.2.2.2.2.2.2.2.2.2.2.2.2.2.2.2.2.2.2.2.2.2.1, hF.2.2.2.2.2.2.2.2.2.2.2.2.2.2.2.2.2.2.2.2.2.2.1, hF.2.2.2.2.2.2.2.2.2.2.2.2.2.2.2.2.2.2.2.2.2.2.2.1, hF.2.2.2.2.2.2.2.2.2.2.2.2.2.2.2.2.2.2.2.2.2.2.2.2.1, hF.2.2.2.2.2.2.2.2.2.2.2.2.2.2.2.2.2.2.2.2.2.2.2.2.2.1, hF.2.2.2.2.2.2.2.2.2.2.2.2.2.2.2.2.2.2.2.2.2.2.2.2.2.2.1, hF.2.2.2.2.2.2.2.2.2.2.2.2.2.2.2.2.2.2.2.2.2.2.2.2.2.2.2.1, hF.2.2.2.2.2.2.2.2.2.2.2.2.2.2.2.2.2.2.2.2.2.2.2.2.2.2.2.2.1, hF.2.2.2.2.2.2.2.2.2.2.2.2.2.2.2.2.2.2.2.2.2.2.2.2.2.2.2.2.2⟩, ⟨below_step hW.1 hb, fun q => (hW.2.1 q).below hb, fun q => (hW.2.2.1 q).below hb, fun _ => hO2.at, fun q => (hW.2.2.2.2 q).below hb⟩⟩
    refine StepsI.cons rfl ?_ ?_
    · rintro L zA v9 ⟨zB, zS, qa0, qc0, qa1, qc1, qa2, qc2, qa3, qc3, rfl, rfl, hF, hW⟩ hL hm K hK
      have hb20 : zB 20 = false := by simpa using hL
      have hb14 : zB 14 = true := by cases e : zB 14 with | false => (exfalso; revert hm; simp [metB, Region.binds, e]) | true => rfl
      have hb15 : zB 15 = true := by cases e : zB 15 with | false => (exfalso; revert hm; simp [metB, Region.binds, e]) | true => rfl
      have hb19 : zB 19 = true := by cases e : zB 19 with | false => (exfalso; revert hm; simp [metB, Region.binds, e]) | true => rfl
      have e14 : zS 65 = .bool false := hF.2.2.2.2.2.2.2.2.2.2.2.2.2.2.1 hb14
      have e15 : zS 66 = .agg #[.int .i64 zw, .slice aW lw.length cW] := hF.2.2.2.2.2.2.2.2.2.2.2.2.2.2.2.1 hb15
      have e19 : zS 70 = .agg #[.int .i64 zw, .slice qa2 lw.length qc2] := hF.2.2.2.2.2.2.2.2.2.2.2.2.2.2.2.2.2.2.2.1 hb19
      clear hL hm
      rw [hb19] at hW
      simp only [puts, Act.put, List.setIfInBounds_toArray, List.set_cons_zero, List.set_cons_succ]
      simp only [e14, e15, e19]
      go_simp
      refine (sameFacts_ok zw lw _ _ _ _ _ HLW.out (LW.out.below hW.1) (hW.2.2.2.1 (by first | rfl | trivial))).mono ?_
      rintro e v92 ⟨rfl, hb⟩
      go_wp2_with fail
      exact hK.out _ _ ⟨fun zj => if zj = 19 then true else if zj = 15 then true else if zj = 14 then true else if zj = 20 then true else zB zj, fun zd => if zd = 71 then .bool true else if zd = 70 then .agg #[.int .i64 zw, .slice qa2 lw.length qc2] else if zd = 66 then .agg #[.int .i64 zw, .slice aW lw.length cW] else if zd = 65 then .bool false else zS zd, qa0, qc0, qa1, qc1, qa2, qc2, qa3, qc3, by simp [hb14, hb15, hb19], by kernel_rfl, ⟨hF.1, hF.2.1, hF.2.2.1, hF.2.2.2.1, hF.2.2.2.2.1, hF.2.2.2.2.2.1, hF.2.2.2.2.2.2.1, hF.2.2.2.2.2.2.2.1, hF.2.2.2.2.2.2.2.2.1, hF.2.2.2.2.2.2.2.2.2.1, hF.2.2.2.2.2.2.2.2.2.2.1, hF.2.2.2.2.2.2.2.2.2.2.2.1, hF.2.2.2.2.2.2.2.2.2.2.2.2.1, hF.2.2.2.2.2.2.2.2.2.2.2.2.2.1, fun _ => rfl, fun _ => rfl, hF.2.2.2.2.2.2.2.2.2.2.2.2.2.2.2.2.1, hF.2.2.2.2.2.2.2.2.2.2.2.2.2.2.2.2.2.1, hF.2.2.2.2.2.2.2.2.2.2.2.2.2.2.2.2.2.2.1, fun _ => rfl, fun _ => rfl, hF.2.2.2.2.2.2.2.2.2.2.2.2.2.2.2.2.2.2.2.2.2.1, hF.2.2.2.2.2.2.2.2.2.2.2.2.2.2.2.2.2.2.2.2.2.2.1, hF.2.2.2.2.2.2.2.2.2.2.2.2.2.2.2.2.2.2.2.2.2.2.2.1, hF.2.2.2.2.2.2.2.2.2.2.2.2.2.2.2.2.2.2.2.2.2.2.2.2.1, hF.2.2.2.2.2.2.2.2.2.2.2.2.2.2.2.2.2.2.2.2.2.2.2.2.2.1, hF.2.2.2.2.2.2.2.2.2.2.2.2.2.2.2.2.2.2.2.2.2.2.2.2.2.2.1, hF.2.2.2.2.2.2.2.2.2.2.2.2.2.2.2.2.2.2.2.2.2.2.2.2.2.2.2.1, hF.2.2.2.2.2.2.2.2.2.2.2.2.2.2.2.2.2.2.2.2.2.2.2.2.2.2.2.2.1, hF.2.2.2.2.2.2.2.2.2.2.2.2.2.2.2.2.2.2.2.2.2.2.2.2.2.2.2.2.2⟩, ⟨below_step hW.1 hb, fun q => (hW.2.1 q).below hb, fun q => (hW.2.2.1 q).below hb, fun _ => (hW.2.2.2.1 (by first | rfl | trivial)).below hb, fun q => (hW.2.2.2.2 q).below hb⟩⟩
    refine StepsI.cons rfl ?_ ?_
    · rintro L zA v9 ⟨zB, zS, qa0, qc0, qa1, qc1, qa2, qc2, qa3, qc3, rfl, rfl, hF, hW⟩ hL hm K hK
      have hb21 : zB 21 = false := by simpa using hL
      have hb14 : zB 14 = true := by cases e : zB 14 with | false => (exfalso; revert hm; simp [metB, Region.binds, e]) | true => rfl
      have hb20 : zB 20 = true := by cases e : zB 20 with | false => (exfalso; revert hm; simp [metB, Region.binds, e]) | true => rfl
      have e14 : zS 65 = .bool false := hF.2.2.2.2.2.2.2.2.2.2.2.2.2.2.1 hb14
      have e20 : zS 71 = .bool true := hF.2.2.2.2.2.2.2.2.2.2.2.2.2.2.2.2.2.2.2.2.1 hb20
      clear hL hm
      simp only [puts, Act.put, List.setIfInBounds_toArray, List.set_cons_zero, List.set_cons_succ]
      simp only [e14, e20]
      go_simp
      exact hK.out _ _ ⟨fun zj => if zj = 20 then true else if zj = 14 then true else if zj = 21 then true else zB zj, fun zd => if zd = 72 then .bool false else if zd = 71 then .bool true else if zd = 65 then .bool false else zS zd, qa0, qc0, qa1, qc1, qa2, qc2, qa3, qc3, by simp [hb14, hb20], by kernel_rfl, ⟨hF.1, hF.2.1, hF.2.2.1, hF.2.2.2.1, hF.2.2.2.2.1, hF.2.2.2.2.2.1, hF.2.2.2.2.2.2.1, hF.2.2.2.2.2.2.2.1, hF.2.2.2.2.2.2.2.2.1, hF.2.2.2.2.2.2.2.2.2.1, hF.2.2.2.2.2.2.2.2.2.2.1, hF.2.2.2.2.2.2.2.2.2.2.2.1, hF.2.2.2.2.2.2.2.2.2.2.2.2.1, hF.2.2.2.2.2.2.2.2.2.2.2.2.2.1, fun _ => rfl, hF.2.2.2.2.2.2.2.2.2.2.2.2.2.2.2.1, hF.2.2.2.2.2.2.2.2.2.2.2.2.2.2.2.2.1, hF.2.2.2.2.2.2.2.2.2.2.2.2.2.2.2.2.2.1, hF.2.2.2.2.2.2.2.2.2.2.2.2.2.2.2.2.2.2.1, hF.2.2.2.2.2.2.2.2.2.2.2.2.2.2.2.2.2.2.2.1, fun _ => rfl, fun _ => rfl, hF.2.2.2.2.2.2.2.2.2.2.2.2.2.2.2.2.2.2.2.2.2.2.1, hF.2.2.2.2.2.2.2.2.2.2.2.2.2.2.2.2.2.2.2.2.2.2.2.1, hF.2.2.2.2.2.2.2.2.2.2.2.2.2.2.2.2.2.2.2.2.2.2.2.2.1, hF.2.2.2.2.2.2.2.2.2.2.2.2.2.2.2.2.2.2.2.2.2.2.2.2.2.1, hF.2.2.2.2.2.2.2.2.2.2.2.2.2.2.2.2.2.2.2.2.2.2.2.2.2.2.1, hF.2.2.2.2.2.2.2.2.2.2.2.2.2.2.2.2.2.2.2.2.2.2.2.2.2.2.2.1, hF.2.2.2.2.2.2.2.2.2.2.2.2.2.2.2.2.2.2.2.2.2.2.2.2.2.2.2.2.1, hF.2.2.2.2.2.2.2.2.2.2.2.2.2.2.2.2.2.2.2.2.2.2.2.2.2.2.2.2.2⟩, hW⟩
    refine StepsI.cons rfl ?_ ?_
    · rintro L zA v9 ⟨zB, zS, qa0, qc0, qa1, qc1, qa2, qc2, qa3, qc3, rfl, rfl, hF, hW⟩ hL hm K hK
      have hb22 : zB 22 = false := by simpa using hL
      have hb14 : zB 14 = true := by cases e : zB 14 with | false => (exfalso; revert hm; simp [metB, Region.binds, e]) | true => rfl
      have hb21 : zB 21 = true := by cases e : zB 21 with | false => (exfalso; revert hm; simp [metB, Region.binds, e]) | true => rfl
      have e14 : zS 65 = .bool false := hF.2.2.2.2.2.2.2.2.2.2.2.2.2.2.1 hb14
      have e21 : zS 72 = .bool false := hF.2.2.2.2.2.2.2.2.2.2.2.2.2.2.2.2.2.2.2.2.2.1 hb21
      clear hL hm
      simp only [puts, Act.put, List.setIfInBounds_toArray, List.set_cons_zero, List.set_cons_succ]
      simp only [e14, e21]
      go_simp
      exact hK.out _ _ ⟨fun zj => if zj = 21 then true else if zj = 14 then true else if zj = 22 then true else zB zj, fun zd => if zd = 73 then .bool false else if zd = 72 then .bool false else if zd = 65 then .bool false else zS zd, qa0, qc0, qa1, qc1, qa2, qc2, qa3, qc3, by simp [hb14, hb21], by kernel_rfl, ⟨hF.1, hF.2.1, hF.2.2.1, hF.2.2.2.1, hF.2.2.2.2.1, hF.2.2.2.2.2.1, hF.2.2.2.2.2.2.1, hF.2.2.2.2.2.2.2.1, hF.2.2.2.2.2.2.2.2.1, hF.2.2.2.2.2.2.2.2.2.1, hF.2.2.2.2.2.2.2.2.2.2.1, hF.2.2.2.2.2.2.2.2.2.2.2.1, hF.2.2.2.2.2.2.2.2.2.2.2.2.1, hF.2.2.2.2.2.2.2.2.2.2.2.2.2.1, fun _ => rfl, hF.2.2.2.2.2.2.2.2.2.2.2.2.2.2.2.1, hF.2.2.2.2.2.2.2.2.2.2.2.2.2.2.2.2.1, hF.2.2.2.2.2.2.2.2.2.2.2.2.2.2.2.2.2.1, hF.2.2.2.2.2.2.2.2.2.2.2.2.2.2.2.2.2.2.1, hF.2.2.2.2.2.2.2.2.2.2.2.2.2.2.2.2.2.2.2.1, hF.2.2.2.2.2.2.2.2.2.2.2.2.2.2.2.2.2.2.2.2.1, fun _ => rfl, fun _ => rfl, hF.2.2.2.2.2.2.2.2.2.2.2.2.2.2.2.2.2.2.2.2.2.2.2.1, hF.2.2.2.2.2.2.2.2.2.2.2.2.2.2.2.2.2.2.2.2.2.2.2.2.1, hF.2.2.2.2.2.2.2.2.2.2.2.2.2.2.2.2.2.2.2.2.2.2.2.2.2.1, hF.2.2.2.2.2.2.2.2.2.2.2.2.2.2.2.2.2.2.2.2.2.2.2.2.2.2.1, hF.2.2.2.2.2.2.2.2.2.2.2.2.2.2.2.2.2.2.2.2.2.2.2.2.2.2.2.1, hF.2.2.2.2.2.2.2.2.2.2.2.2.2.2.2.2.2.2.2.2.2.2.2.2.2.2.2.2.1, hF.2.2.2.2.2.2.2.2.2.2.2.2.2.2.2.2.2.2.2.2.2.2.2.2.2.2.2.2.2⟩, hW⟩
    refine StepsI.cons rfl ?_ ?_
    · rintro L zA v9 ⟨zB, zS, qa0, qc0, qa1, qc1, qa2, qc2, qa3, qc3, rfl, rfl, hF, hW⟩ hL hm K hK
      have hb23 : zB 23 = false := by simpa using hL
      have hb22 : zB 22 = true := by cases e : zB 22 with | false => (exfalso; revert hm; simp [metB, Region.binds, e]) | true => rfl
      have e22 : zS 73 = .bool false := hF.2.2.2.2.2.2.2.2.2.2.2.2.2.2.2.2.2.2.2.2.2.2.1 hb22
      clear hL hm
      simp only [puts, Act.put, List.setIfInBounds_toArray, List.set_cons_zero, List.set_cons_succ]
      simp only [e22]
      go_simp
      exact hK.out _ _ ⟨fun zj => if zj = 22 then true else if zj = 23 then true else zB zj, fun zd => if zd = 74 then .bool false else if zd = 73 then .bool false else zS zd, qa0, qc0, qa1, qc1, qa2, qc2, qa3, qc3, by simp [hb22], by kernel_rfl, ⟨hF.1, hF.2.1, hF.2.2.1, hF.2.2.2.1, hF.2.2.2.2.1, hF.2.2.2.2.2.1, hF.2.2.2.2.2.2.1, hF.2.2.2.2.2.2.2.1, hF.2.2.2.2.2.2.2.2.1, hF.2.2.2.2.2.2.2.2.2.1, hF.2.2.2.2.2.2.2.2.2.2.1, hF.2.2.2.2.2.2.2.2.2.2.2.1, hF.2.2.2.2.2.2.2.2.2.2.2.2.1, hF.2.2.2.2.2.2.2.2.2.2.2.2.2.1, hF.2.2.2.2.2.2.2.2.2.2.2.2.2.2.1, hF.2.2.2.2.2.2.2.2.2.2.2.2.2.2.2.1, hF.2.2.2.2.2.2.2.2.2.2.2.2.2.2.2.2.1, hF.2.2.2.2.2.2.2.2.2.2.2.2.2.2.2.2.2.1, hF.2.2.2.2.2.2.2.2.2.2.2.2.2.2.2.2.2.2.1, hF.2.2.2.2.2.2.2.2.2.2.2.2.2.2.2.2.2.2.2.1, hF.2.2.2.2.2.2.2.2.2.2.2.2.2.2.2.2.2.2.2.2.1, hF.2.2.2.2.2.2.2.2.2.2.2.2.2.2.2.2.2.2.2.2.2.1, fun _ => rfl, fun _ => rfl, hF.2.2.2.2.2.2.2.2.2.2.2.2.2.2.2.2.2.2.2.2.2.2.2.2.1, hF.2.2.2.2.2.2.2.2.2.2.2.2.2.2.2.2.2.2.2.2.2.2.2.2.2.1, hF.2.2.2.2.2.2.2.2.2.2.2.2.2.2.2.2.2.2.2.2.2.2.2.2.2.2.1, hF.2.2.2.2.2.2.2.2.2.2.2.2.2.2.2.2.2.2.2.2.2.2.2.2.2.2.2.1, hF.2.2.2.2.2.2.2.2.2.2.2.2.2.2.2.2.2.2.2.2.2.2.2.2.2.2.2.2.1, hF.2.2.2.2.2.2.2.2.2.2.2.2.2.2.2.2.2.2.2.2.2.2.2.2.2.2.2.2.2⟩, hW⟩
    refine StepsI.cons rfl ?_ ?_
    · rintro L zA v9 ⟨zB, zS, qa0, qc0, qa1, qc1, qa2, qc2, qa3, qc3, rfl, rfl, hF, hW⟩ hL hm K hK
      have hb24 : zB 24 = false := by simpa using hL
      have hb23 : zB 23 = true := by cases e : zB 23 with | false => (exfalso; revert hm; simp [metB, Region.binds, e]) | true => rfl
      have e23 : zS 74 = .bool false := hF.2.2.2.2.2.2.2.2.2.2.2.2.2.2.2.2.2.2.2.2.2.2.2.1 hb23
      clear hL hm
      simp only [puts, Act.put, List.setIfInBounds_toArray, List.set_cons_zero, List.set_cons_succ]
      simp only [e23]
      obtain ⟨k0, k1⟩ := hX9 _ hW.1
      go_simp
      exact hK.out _ _ ⟨fun zj => if zj = 23 then true else if zj = 24 then true else zB zj, fun zd => if zd = 75 then .agg #[.int .i64 zx, .slice aX lx.length cX] else if zd = 74 then .bool false else zS zd, qa0, qc0, qa1, qc1, qa2, qc2, qa3, qc3, by simp [hb23], by kernel_rfl, ⟨hF.1, hF.2.1, hF.2.2.1, hF.2.2.2.1, hF.2.2.2.2.1, hF.2.2.2.2.2.1, hF.2.2.2.2.2.2.1, hF.2.2.2.2.2.2.2.1, hF.2.2.2.2.2.2.2.2.1, hF.2.2.2.2.2.2.2.2.2.1, hF.2.2.2.2.2.2.2.2.2.2.1, hF.2.2.2.2.2.2.2.2.2.2.2.1, hF.2.2.2.2.2.2.2.2.2.2.2.2.1, hF.2.2.2.2.2.2.2.2.2.2.2.2.2.1, hF.2.2.2.2.2.2.2.2.2.2.2.2.2.2.1, hF.2.2.2.2.2.2.2.2.2.2.2.2.2.2.2.1, hF.2.2.2.2.2.2.2.2.2.2.2.2.2.2.2.2.1, hF.2.2.2.2.2.2.2.2.2.2.2.2.2.2.2.2.2.1, hF.2.2.2.2.2.2.2.2.2.2.2.2.2.2.2.2.2.2.1, hF.2.2.2.2.2.2.2.2.2.2.2.2.2.2.2.2.2.2.2.1, hF.2.2.2.2.2.2.2.2.2.2.2.2.2.2.2.2.2.2.2.2.1, hF.2.2.2.2.2.2.2.2.2.2.2.2.2.2.2.2.2.2.2.2.2.1, hF.2.2.2.2.2.2.2.2.2.2.2.2.2.2.2.2.2.2.2.2.2.2.1, fun _ => rfl, fun _ => rfl, hF.2.2.2.2.2.2.2.2.2.2.2.2.2.2.2.2.2.2.2.2.2.2.2.2.2.1, hF.2.2.2.2.2.2.2.2.2.2.2.2.2.2.2.2.2.2.2.2.2.2.2.2.2.2.1, hF.2.2.2.2.2.2.2.2.2.2.2.2.2.2.2.2.2.2.2.2.2.2.2.2.2.2.2.1, hF.2.2.2.2.2.2.2.2.2.2.2.2.2.2.2.2.2.2.2.2.2.2.2.2.2.2.2.2.1, hF.2.2.2.2.2.2.2.2.2.2.2.2.2.2.2.2.2.2.2.2.2.2.2.2.2.2.2.2.2⟩, hW⟩
    refine StepsI.cons rfl ?_ ?_
    · rintro L zA v9 ⟨zB, zS, qa0, qc0, qa1, qc1, qa2, qc2, qa3, qc3, rfl, rfl, hF, hW⟩ hL hm K hK
      have hb25 : zB 25 = false := by simpa using hL
      have hb23 : zB 23 = true := by cases e : zB 23 with | false => (exfalso; revert hm; simp [metB, Region.binds, e]) | true => rfl
      have e23 : zS 74 = .bool false := hF.2.2.2.2.2.2.2.2.2.2.2.2.2.2.2.2.2.2.2.2.2.2.2.1 hb23
      clear hL hm
      simp only [puts, Act.put, List.setIfInBounds_toArray, List.set_cons_zero, List.set_cons_succ]
      simp only [e23]
      obtain ⟨k0, k1⟩ := hA9 _ hW.1
      go_simp
      exact hK.out _ _ ⟨fun zj => if zj = 23 then true else if zj = 25 then true else zB zj, fun zd => if zd = 76 then .agg #[.int .i64 z, .slice ao l.length cp] else if zd = 74 then .bool false else zS zd, qa0, qc0, qa1, qc1, qa2, qc2, qa3, qc3, by simp [hb23], by kernel_rfl, ⟨hF.1, hF.2.1, hF.2.2.1, hF.2.2.2.1, hF.2.2.2.2.1, hF.2.2.2.2.2.1, hF.2.2.2.2.2.2.1, hF.2.2.2.2.2.2.2.1, hF.2.2.2.2.2.2.2.2.1, hF.2.2.2.2.2.2.2.2.2.1, hF.2.2.2.2.2.2.2.2.2.2.1, hF.2.2.2.2.2.2.2.2.2.2.2.1, hF.2.2.2.2.2.2.2.2.2.2.2.2.1, hF.2.2.2.2.2.2.2.2.2.2.2.2.2.1, hF.2.2.2.2.2.2.2.2.2.2.2.2.2.2.1, hF.2.2.2.2.2.2.2.2.2.2.2.2.2.2.2.1, hF.2.2.2.2.2.2.2.2.2.2.2.2.2.2.2.2.1, hF.2.2.2.2.2.2.2.2.2.2.2.2.2.2.2.2.2.1, hF.2.2.2.2.2.2.2.2.2.2.2.2.2.2.2.2.2.2.1, hF.2.2.2.2.2.2.2.2.2.2.2.2.2.2.2.2.2.2.2.1, hF.2.2.2.2.2.2.2.2.2.2.2.2.2.2.2.2.2.2.2.2.1, hF.2.2.2.2.2.2.2.2.2.2.2.2.2.2.2.2.2.2.2.2.2.1, hF.2.2.2.2.2.2.2.2.2.2.2.2.2.2.2.2.2.2.2.2.2.2.1, fun _ => rfl, hF.2.2.2.2.2.2.2.2.2.2.2.2.2.2.2.2.2.2.2.2.2.2.2.2.1, fun _ => rfl, hF.2.2.2.2.2.2.2.2.2.2.2.2.2.2.2.2.2.2.2.2.2.2.2.2.2.2.1, hF.2.2.2.2.2.2.2.2.2.2.2.2.2.2.2.2.2.2.2.2.2.2.2.2.2.2.2.1, hF.2.2.2.2.2.2.2.2.2.2.2.2.2.2.2.2.2.2.2.2.2.2.2.2.2.2.2.2.1, hF.2.2.2.2.2.2.2.2.2.2.2.2.2.2.2.2.2.2.2.2.2.2.2.2.2.2.2.2.2⟩, hW⟩
    refine StepsI.cons rfl ?_ ?_
    · rintro L zA v9 ⟨zB, zS, qa0, qc0, qa1, qc1, qa2, qc2, qa3, qc3, rfl, rfl, hF, hW⟩ hL hm K hK
      have hb26 : zB 26 = false := by simpa using hL
      have hb23 : zB 23 = true := by cases e : zB 23 with | false => (exfalso; revert hm; simp [metB, Region.binds, e]) | true => rfl
      have hb25 : zB 25 = true := by cases e : zB 25 with | false => (exfalso; revert hm; simp [metB, Region.binds, e]) | true => rfl
      have e23 : zS 74 = .bool false := hF.2.2.2.2.2.2.2.2.2.2.2.2.2.2.2.2.2.2.2.2.2.2.2.1 hb23
      have e25 : zS 76 = .agg #[.int .i64 z, .slice ao l.length cp] := hF.2.2.2.2.2.2.2.2.2.2.2.2.2.2.2.2.2.2.2.2.2.2.2.2.2.1 hb25
      clear hL hm
      rw [hb26] at hW
      simp only [puts, Act.put, List.setIfInBounds_toArray, List.set_cons_zero, List.set_cons_succ]
      simp only [e23, e25]
      go_simp
      refine (C17.out _ (LA.out.below hW.1)).mono ?_
      rintro e v92 ⟨qa9, qc9, rfl, hO2, hb⟩
      go_wp2_with fail
      exact hK.out _ _ ⟨fun zj => if zj = 25 then true else if zj = 23 then true else if zj = 26 then true else zB zj, fun zd => if zd = 77 then .agg #[.int .i64 zx, .slice qa9 lx.length qc9] else if zd = 76 then .agg #[.int .i64 z, .slice ao l.length cp] else if zd = 74 then .bool false else zS zd, qa0, qc0, qa1, qc1, qa2, qc2, qa9, qc9, by simp [hb23, hb25], by kernel_rfl, ⟨hF.1, hF.2.1, hF.2.2.1, hF.2.2.2.1, hF.2.2.2.2.1, hF.2.2.2.2.2.1, hF.2.2.2.2.2.2.1, hF.2.2.2.2.2.2.2.1, hF.2.2.2.2.2.2.2.2.1, hF.2.2.2.2.2.2.2.2.2.1, hF.2.2.2.2.2.2.2.2.2.2.1, hF.2.2.2.2.2.2.2.2.2.2.2.1, hF.2.2.2.2.2.2.2.2.2.2.2.2.1, hF.2.2.2.2.2.2.2.2.2.2.2.2.2.1, hF.2.2.2.2.2.2.2.2.2.2.2.2.2.2.1, hF.2.2.2.2.2.2.2.2.2.2.2.2.2.2.2.1, hF.2.2.2.2.2.2.2.2.2.2.2.2.2.2.2.2.1, hF.2.2.2.2.2.2.2.2.2.2.2.2.2.2.2.2.2.1, hF.2.2.2.2.2.2.2.2.2.2.2.2.2.2.2.2.2.2.1, hF.2.2.2.2.2.2.2.2.2.2.2.2.2.2.2.2.2.2.2.1, hF.2.2.2.2.2.2.2.2.2.2.2.2.2.2.2.2.2.2.2.2.1, hF.2.2.2.2.2.2.2.2.2.2.2.2.2.2.2.2.2.2.2.2.2.1, hF.2.2.2.2.2.2.2.2.2.2.2.2.2.2.2.2.2.2.2.2.2.2.1, fun _ => rfl, hF.2.2.2.2.2.2.2.2.2.2.2.2.2.2.2.2.2.2.2.2.2.2.2.2.1, fun _ => rfl, fun _ => rfl, hF.2.2.2.2.2.2.2.2.2.2.2.2.2.2.2.2.2.2.2.2.2.2.2.2.2.2.2.1, hF.2.2.2.2.2.2.2.2.2.2.2.2.2.2.2.2.2.2.2.2.2.2.2.2.2.2.2.2.1, hF.2.2.2.2.2.2.2.2.2.2.2.2.2.2.2.2.2.2.2.2.2.2.2.2.2.2.2.2.2⟩, ⟨below_step hW.1 hb, fun q => (hW.2.1 q).below hb, fun q => (hW.2.2.1 q).below hb, fun q => (hW.2.2.2.1 q).below hb, fun _ => hO2.at⟩⟩
    refine StepsI.cons rfl ?_ ?_
    · rintro L zA v9 ⟨zB, zS, qa0, qc0, qa1, qc1, qa2, qc2, qa3, qc3, rfl, rfl, hF, hW⟩ hL hm K hK
      have hb27 : zB 27 = false := by simpa using hL
      have hb23 : zB 23 = true := by cases e : zB 23 with | false => (exfalso; revert hm; simp [metB, Region.binds, e]) | true => rfl
      have hb24 : zB 24 = true := by cases e : zB 24 with | false => (exfalso; revert hm; simp [metB, Region.binds, e]) | true => rfl
      have hb26 : zB 26 = true := by cases e : zB 26 with | false => (exfalso; revert hm; simp [metB, Region.binds, e]) | true => rfl
      have e23 : zS 74 = .bool false := hF.2.2.2.2.2.2.2.2.2.2.2.2.2.2.2.2.2.2.2.2.2.2.2.1 hb23
      have e24 : zS 75 = .agg #[.int .i64 zx, .slice aX lx.length cX] := hF.2.2.2.2.2.2.2.2.2.2.2.2.2.2.2.2.2.2.2.2.2.2.2.2.1 hb24
      have e26 : zS 77 = .agg #[.int .i64 zx, .slice qa3 lx.length qc3] := hF.2.2.2.2.2.2.2.2.2.2.2.2.2.2.2.2.2.2.2.2.2.2.2.2.2.2.1 hb26
      clear hL hm
      rw [hb26] at hW
      simp only [puts, Act.put, List.setIfInBounds_toArray, List.set_cons_zero, List.set_cons_succ]
      simp only [e23, e24, e26]
      go_simp
      refine (sameFacts_ok zx lx _ _ _ _ _ HLX.out (LX.out.below hW.1) (hW.2.2.2.2 (by first | rfl | trivial))).mono ?_
      rintro e v92 ⟨rfl, hb⟩
      go_wp2_with fail
      exact hK.out _ _ ⟨fun zj => if zj = 26 then true else if zj = 24 then true else if zj = 23 then true else if zj = 27 then true else zB zj, fun zd => if zd = 78 then .bool true else if zd = 77 then .agg #[.int .i64 zx, .slice qa3 lx.length qc3] else if zd = 75 then .agg #[.int .i64 zx, .slice aX lx.length cX] else if zd = 74 then .bool false else zS zd, qa0, qc0, qa1, qc1, qa2, qc2, qa3, qc3, by simp [hb23, hb24, hb26], by kernel_rfl, ⟨hF.1, hF.2.1, hF.2.2.1, hF.2.2.2.1, hF.2.2.2.2.1, hF.2.2.2.2.2.1, hF.2.2.2.2.2.2.1, hF.2.2.2.2.2.2.2.1, hF.2.2.2.2.2.2.2.2.1, hF.2.2.2.2.2.2.2.2.2.1, hF.2.2.2.2.2.2.2.2.2.2.1, hF.2.2.2.2.2.2.2.2.2.2.2.1, hF.2.2.2.2.2.2.2.2.2.2.2.2.1, hF.2.2.2.2.2.2.2.2.2.2.2.2.2.1, hF.2.2.2.2.2.2.2.2.2.2.2.2.2.2.1, hF.2.2.2.2.2.2.2.2.2.2.2.2.2.2.2.1, hF.2.2.2.2.2.2.2.2.2.2.2.2.2.2.2.2.1, hF.2.2.2.2.2.2.2.2.2.2.2.2.2.2.2.2.2.1, hF.2.2.2.2.2.2.2.2.2.2.2.2.2.2.2.2.2.2.1, hF.2.2.2.2.2.2.2.2.2.2.2.2.2.2.2.2.2.2.2.1, hF.2.2.2.2.2.2.2.2.2.2.2.2.2.2.2.2.2.2.2.2.1, hF.2.2.2.2.2.2.2.2.2.2.2.2.2.2.2.2.2.2.2.2.2.1, hF.2.2.2.2.2.2.2.2.2.2.2.2.2.2.2.2.2.2.2.2.2.2.1, fun _ => rfl, fun _ => rfl, hF.2.2.2.2.2.2.2.2.2.2.2.2.2.2.2.2.2.2.2.2.2.2.2.2.2.1, fun _ => rfl, fun _ => rfl, hF.2.2.2.2.2.2.2.2.2.2.2.2.2.2.2.2.2.2.2.2.2.2.2.2.2.2.2.2.1, hF.2.2.2.2.2.2.2.2.2.2.2.2.2.2.2.2.2.2.2.2.2.2.2.2.2.2.2.2.2⟩, ⟨below_step hW.1 hb, fun q => (hW.2.1 q).below hb, fun q => (hW.2.2.1 q).below hb, fun q => (hW.2.2.2.1 q).below hb, fun _ => (hW.2.2.2.2 (by first | rfl | trivial)).below hb⟩⟩
    refine StepsI.cons rfl ?_ ?_
    · rintro L zA v9 ⟨zB, zS, qa0, qc0, qa1, qc1, qa2, qc2, qa3, qc3, rfl, rfl, hF, hW⟩ hL hm K hK
      have hb28 : zB 28 = false := by simpa using hL
      have hb23 : zB 23 = true := by cases e : zB 23 with | false => (exfalso; revert hm; simp [metB, Region.binds, e]) | true => rfl
      have hb27 : zB 27 = true := by cases e : zB 27 with | false => (exfalso; revert hm; simp [metB, Region.binds, e]) | true => rfl
      have e23 : zS 74 = .bool false := hF.2.2.2.2.2.2.2.2.2.2.2.2.2.2.2.2.2.2.2.2.2.2.2.1 hb23
      have e27 : zS 78 = .bool true := hF.2.2.2.2.2.2.2.2.2.2.2.2.2.2.2.2.2.2.2.2.2.2.2.2.2.2.2.1 hb27
      clear hL hm
      simp only [puts, Act.put, List.setIfInBounds_toArray, List.set_cons_zero, List.set_cons_succ]
      simp only [e23, e27]
      go_simp
      exact hK.out _ _ ⟨fun zj => if zj = 27 then true else if zj = 23 then true else if zj = 28 then true else zB zj, fun zd => if zd = 79 then .bool false else if zd = 78 then .bool true else if zd = 74 then .bool false else zS zd, qa0, qc0, qa1, qc1, qa2, qc2, qa3, qc3, by simp [hb23, hb27], by kernel_rfl, ⟨hF.1, hF.2.1, hF.2.2.1, hF.2.2.2.1, hF.2.2.2.2.1, hF.2.2.2.2.2.1, hF.2.2.2.2.2.2.1, hF.2.2.2.2.2.2.2.1, hF.2.2.2.2.2.2.2.2.1, hF.2.2.2.2.2.2.2.2.2.1, hF.2.2.2.2.2.2.2.2.2.2.1, hF.2.2.2.2.2.2.2.2.2.2.2.1, hF.2.2.2.2.2.2.2.2.2.2.2.2.1, hF.2.2.2.2.2.2.2.2.2.2.2.2.2.1, hF.2.2.2.2.2.2.2.2.2.2.2.2.2.2.1, hF.2.2.2.2.2.2.2.2.2.2.2.2.2.2.2.1, hF.2.2.2.2.2.2.2.2.2.2.2.2.2.2.2.2.1, hF.2.2.2.2.2.2.2.2.2.2.2.2.2.2.2.2.2.1, hF.2.2.2.2.2.2.2.2.2.2.2.2.2.2.2.2.2.2.1, hF.2.2.2.2.2.2.2.2.2.2.2.2.2.2.2.2.2.2.2.1, hF.2.2.2.2.2.2.2.2.2.2.2.2.2.2.2.2.2.2.2.2.1, hF.2.2.2.2.2.2.2.2.2.2.2.2.2.2.2.2.2.2.2.2.2.1, hF.2.2.2.2.2.2.2.2.2.2.2.2.2.2.2.2.2.2.2.2.2.2.1, fun _ => rfl, hF.2.2.2.2.2.2.2.2.2.2.2.2.2.2.2.2.2.2.2.2.2.2.2.2.1, hF.2.2.2.2.2.2.2.2.2.2.2.2.2.2.2.2.2.2.2.2.2.2.2.2.2.1, hF.2.2.2.2.2.2.2.2.2.2.2.2.2.2.2.2.2.2.2.2.2.2.2.2.2.2.1, fun _ => rfl, fun _ => rfl, hF.2.2.2.2.2.2.2.2.2.2.2.2.2.2.2.2.2.2.2.2.2.2.2.2.2.2.2.2.2⟩, hW⟩
    refine StepsI.cons rfl ?_ ?_
    · rintro L zA v9 ⟨zB, zS, qa0, qc0, qa1, qc1, qa2, qc2, qa3, qc3, rfl, rfl, hF, hW⟩ hL hm K hK
      have hb29 : zB 29 = false := by simpa using hL
      have hb23 : zB 23 = true := by cases e : zB 23 with | false => (exfalso; revert hm; simp [metB, Region.binds, e]) | true => rfl
      have hb28 : zB 28 = true := by cases e : zB 28 with | false => (exfalso; revert hm; simp [metB, Region.binds, e]) | true => rfl
      have e23 : zS 74 = .bool false := hF.2.2.2.2.2.2.2.2.2.2.2.2.2.2.2.2.2.2.2.2.2.2.2.1 hb23
      have e28 : zS 79 = .bool false := hF.2.2.2.2.2.2.2.2.2.2.2.2.2.2.2.2.2.2.2.2.2.2.2.2.2.2.2.2.1 hb28
      clear hL hm
      simp only [puts, Act.put, List.setIfInBounds_toArray, List.set_cons_zero, List.set_cons_succ]
      simp only [e23, e28]
      go_simp
      exact hK.out _ _ ⟨fun zj => if zj = 28 then true else if zj = 23 then true else if zj = 29 then true else zB zj, fun zd => if zd = 80 then .bool false else if zd = 79 then .bool false else if zd = 74 then .bool false else zS zd, qa0, qc0, qa1, qc1, qa2, qc2, qa3, qc3, by simp [hb23, hb28], by kernel_rfl, ⟨hF.1, hF.2.1, hF.2.2.1, hF.2.2.2.1, hF.2.2.2.2.1, hF.2.2.2.2.2.1, hF.2.2.2.2.2.2.1, hF.2.2.2.2.2.2.2.1, hF.2.2.2.2.2.2.2.2.1, hF.2.2.2.2.2.2.2.2.2.1, hF.2.2.2.2.2.2.2.2.2.2.1, hF.2.2.2.2.2.2.2.2.2.2.2.1, hF.2.2.2.2.2.2.2.2.2.2.2.2.1, hF.2.2.2.2.2.2.2.2.2.2.2.2.2.1, hF.2.2.2.2.2.2.2.2.2.2.2.2.2.2.1, hF.2.2.2.2.2.2.2.2.2.2.2.2.2.2.2.1, hF.2.2.2.2.2.2.2.2.2.2.2.2.2.2.2.2.1, hF.2.2.2.2.2.2.2.2.2.2.2.2.2.2.2.2.2.1, hF.2.2.2.2.2.2.2.2.2.2.2.2.2.2.2.2.2.2.1, hF.2.2.2.2.2.2.2.2.2.2.2.2.2.2.2.2.2.2.2.1, hF.2.2.2.2.2.2.2.2.2.2.2.2.2.2.2.2.2.2.2.2.1, hF.2.2.2.2.2.2.2.2.2.2.2.2.2.2.2.2.2.2.2.2.2.1, hF.2.2.2.2.2.2.2.2.2.2.2.2.2.2.2.2.2.2.2.2.2.2.1, fun _ => rfl, hF.2.2.2.2.2.2.2.2.2.2.2.2.2.2.2.2.2.2.2.2.2.2.2.2.1, hF.2.2.2.2.2.2.2.2.2.2.2.2.2.2.2.2.2.2.2.2.2.2.2.2.2.1, hF.2.2.2.2.2.2.2.2.2.2.2.2.2.2.2.2.2.2.2.2.2.2.2.2.2.2.1, hF.2.2.2.2.2.2.2.2.2.2.2.2.2.2.2.2.2.2.2.2.2.2.2.2.2.2.2.1, fun _ => rfl, fun _ => rfl⟩, hW⟩
    exact StepsI.nil (by kernel_rfl)
  · rintro L zA v9 ⟨zB, zS, qa0, qc0, qa1, qc1, qa2, qc2, qa3, qc3, rfl, rfl, hF, hW⟩ hr
    have hu := all_up (by kernel_rfl) (N := 30) (by kernel_rfl) hr
    have hb0 : zB 0 = true := by simpa using hu 0 (by decide)
    have hb1 : zB 1 = true := by simpa using hu 1 (by decide)
    have hb2 : zB 2 = true := by simpa using hu 2 (by decide)
    have hb3 : zB 3 = true := by simpa using hu 3 (by decide)
    have hb4 : zB 4 = true := by simpa using hu 4 (by decide)
    have hb5 : zB 5 = true := by simpa using hu 5 (by decide)
    have hb6 : zB 6 = true := by simpa using hu 6 (by decide)
    have hb7 : zB 7 = true := by simpa using hu 7 (by decide)
    have hb8 : zB 8 = true := by simpa using hu 8 (by decide)
    have hb9 : zB 9 = true := by simpa using hu 9 (by decide)
    have hb10 : zB 10 = true := by simpa using hu 10 (by decide)
    have hb11 : zB 11 = true := by simpa using hu 11 (by decide)
    have hb12 : zB 12 = true := by simpa using hu 12 (by decide)
    have hb13 : zB 13 = true := by simpa using hu 13 (by decide)
    have hb14 : zB 14 = true := by simpa using hu 14 (by decide)
    have hb15 : zB 15 = true := by simpa using hu 15 (by decide)
    have hb16 : zB 16 = true := by simpa using hu 16 (by decide)
    have hb17 : zB 17 = true := by simpa using hu 17 (by decide)
    have hb18 : zB 18 = true := by simpa using hu 18 (by decide)
    have hb19 : zB 19 = true := by simpa using hu 19 (by decide)
    have hb20 : zB 20 = true := by simpa using hu 20 (by decide)
    have hb21 : zB 21 = true := by simpa using hu 21 (by decide)
    have hb22 : zB 22 = true := by simpa using hu 22 (by decide)
    have hb23 : zB 23 = true := by simpa using hu 23 (by decide)
    have hb24 : zB 24 = true := by simpa using hu 24 (by decide)
    have hb25 : zB 25 = true := by simpa using hu 25 (by decide)
    have hb26 : zB 26 = true := by simpa using hu 26 (by decide)
    have hb27 : zB 27 = true := by simpa using hu 27 (by decide)
    have hb28 : zB 28 = true := by simpa using hu 28 (by decide)
    have hb29 : zB 29 = true := by simpa using hu 29 (by decide)
    have e0 : zS 51 = .agg #[.int .i64 zj, .slice aJ lj.length cJ] := hF.1 hb0
    have e1 : zS 52 = .agg #[.int .i64 z, .slice ao l.length cp] := hF.2.1 hb1
    have e2 : zS 53 = .agg #[.int .i64 z', .slice ao' l'.length cp'] := hF.2.2.1 hb2
    have e3 : zS 54 = .agg #[.int .i64 zj, .slice qa0 lj.length qc0] := hF.2.2.2.1 hb3
    have e4 : zS 55 = .bool true := hF.2.2.2.2.1 hb4
    have e5 : zS 56 = .bool false := hF.2.2.2.2.2.1 hb5
    have e6 : zS 57 = .bool false := hF.2.2.2.2.2.2.1 hb6
    have e7 : zS 58 = .agg #[.int .i64 zm, .slice aM lm.length cM] := hF.2.2.2.2.2.2.2.1 hb7
    have e8 : zS 59 = .agg #[.int .i64 z, .slice ao l.length cp] := hF.2.2.2.2.2.2.2.2.1 hb8
    have e9 : zS 60 = .agg #[.int .i64 z', .slice ao' l'.length cp'] := hF.2.2.2.2.2.2.2.2.2.1 hb9
    have e10 : zS 61 = .agg #[.int .i64 zm, .slice qa1 lm.length qc1] := hF.2.2.2.2.2.2.2.2.2.2.1 hb10
    have e11 : zS 62 = .bool true := hF.2.2.2.2.2.2.2.2.2.2.2.1 hb11
    have e12 : zS 63 = .bool false := hF.2.2.2.2.2.2.2.2.2.2.2.2.1 hb12
    have e13 : zS 64 = .bool false := hF.2.2.2.2.2.2.2.2.2.2.2.2.2.1 hb13
    have e14 : zS 65 = .bool false := hF.2.2.2.2.2.2.2.2.2.2.2.2.2.2.1 hb14
    have e15 : zS 66 = .agg #[.int .i64 zw, .slice aW lw.length cW] := hF.2.2.2.2.2.2.2.2.2.2.2.2.2.2.2.1 hb15
    have e16 : zS 67 = .agg #[.int .i64 z, .slice ao l.length cp] := hF.2.2.2.2.2.2.2.2.2.2.2.2.2.2.2.2.1 hb16
    have e17 : zS 68 = .agg #[.int .i64 z', .slice ao' l'.length cp'] := hF.2.2.2.2.2.2.2.2.2.2.2.2.2.2.2.2.2.1 hb17
    have e18 : zS 69 = .slice (some ⟨gs, 0, none⟩) st.length cs := hF.2.2.2.2.2.2.2.2.2.2.2.2.2.2.2.2.2.2.1 hb18
    have e19 : zS 70 = .agg #[.int .i64 zw, .slice qa2 lw.length qc2] := hF.2.2.2.2.2.2.2.2.2.2.2.2.2.2.2.2.2.2.2.1 hb19
    have e20 : zS 71 = .bool true := hF.2.2.2.2.2.2.2.2.2.2.2.2.2.2.2.2.2.2.2.2.1 hb20
    have e21 : zS 72 = .bool false := hF.2.2.2.2.2.2.2.2.2.2.2.2.2.2.2.2.2.2.2.2.2.1 hb21
    have e22 : zS 73 = .bool false := hF.2.2.2.2.2.2.2.2.2.2.2.2.2.2.2.2.2.2.2.2.2.2.1 hb22
    have e23 : zS 74 = .bool false := hF.2.2.2.2.2.2.2.2.2.2.2.2.2.2.2.2.2.2.2.2.2.2.2.1 hb23
    have e24 : zS 75 = .agg #[.int .i64 zx, .slice aX lx.length cX] := hF.2.2.2.2.2.2.2.2.2.2.2.2.2.2.2.2.2.2.2.2.2.2.2.2.1 hb24
    have e25 : zS 76 = .agg #[.int .i64 z, .slice ao l.length cp] := hF.2.2.2.2.2.2.2.2.2.2.2.2.2.2.2.2.2.2.2.2.2.2.2.2.2.1 hb25
    have e26 : zS 77 = .agg #[.int .i64 zx, .slice qa3 lx.length qc3] := hF.2.2.2.2.2.2.2.2.2.2.2.2.2.2.2.2.2.2.2.2.2.2.2.2.2.2.1 hb26
    have e27 : zS 78 = .bool true := hF.2.2.2.2.2.2.2.2.2.2.2.2.2.2.2.2.2.2.2.2.2.2.2.2.2.2.2.1 hb27
    have e28 : zS 79 = .bool false := hF.2.2.2.2.2.2.2.2.2.2.2.2.2.2.2.2.2.2.2.2.2.2.2.2.2.2.2.2.1 hb28
    have e29 : zS 80 = .bool false := hF.2.2.2.2.2.2.2.2.2.2.2.2.2.2.2.2.2.2.2.2.2.2.2.2.2.2.2.2.2 hb29
    rw [hb3] at hW
    rw [hb10] at hW
    rw [hb19] at hW
    rw [hb26] at hW
    clear hu hr hF
    simp only [puts, Act.put, List.setIfInBounds_toArray, List.set_cons_zero, List.set_cons_succ]
    simp only [e0, e1, e2, e3, e4, e5, e6, e7, e8, e9, e10, e11, e12, e13, e14, e15, e16, e17, e18, e19, e20, e21, e22, e23, e24, e25, e26, e27, e28, e29]
    clear e0 e1 e2 e3 e4 e5 e6 e7 e8 e9 e10 e11 e12 e13 e14 e15 e16 e17 e18 e19 e20 e21 e22 e23 e24 e25 e26 e27 e28 e29
    clear hb0 hb1 hb2 hb3 hb4 hb5 hb6 hb7 hb8 hb9 hb10 hb11 hb12 hb13 hb14 hb15 hb16 hb17 hb18 hb19 hb20 hb21 hb22 hb23 hb24 hb25 hb26 hb27 hb28 hb29
    clear zB zS
    have hb2 := hW.1
    have BE := mkHid (below_step BE.out hb2)
    have BY := mkHid (BY.out.old hb2)
    have FA := mkHid (FA.out.below hb2)
    have FB := mkHid (FB.out.below hb2)
    have LA := mkHid (LA.out.below hb2)
    have LB := mkHid (LB.out.below hb2)
    have IS := mkHid (IS.out.below hb2)
    have GS := mkHid (Nat.lt_of_lt_of_le GS.out hb2.size)
    have FJ := mkHid (FJ.out.below hb2)
    have LJ := mkHid (LJ.out.below hb2)
    have FM := mkHid (FM.out.below hb2)
    have LM := mkHid (LM.out.below hb2)
    have FW := mkHid (FW.out.below hb2)
    have LW := mkHid (LW.out.below hb2)
    have FX := mkHid (FX.out.below hb2)
    have LX := mkHid (LX.out.below hb2)
    clear hb2 hW hA9 hB9 hJ9 hM9 hW9 hX9 C14 C15 C16 C17 IS GS
    obtain ⟨k0, k1⟩ := FA.out
    go_wp2_with fail
    clear k0 k1
    refine (sOkF_any z l ao cp _ LA.out).mono ?_
    rintro e u1 ⟨rfl, hb2⟩
    have BE := mkHid (below_step BE.out hb2)
    have BY := mkHid (BY.out.old hb2)
    have FA := mkHid (FA.out.below hb2)
    have FB := mkHid (FB.out.below hb2)
    have LA := mkHid (LA.out.below hb2)
    have LB := mkHid (LB.out.below hb2)
    have FJ := mkHid (FJ.out.below hb2)
    have LJ := mkHid (LJ.out.below hb2)
    have FM := mkHid (FM.out.below hb2)
    have LM := mkHid (LM.out.below hb2)
    have FW := mkHid (FW.out.below hb2)
    have LW := mkHid (LW.out.below hb2)
    have FX := mkHid (FX.out.below hb2)
    have LX := mkHid (LX.out.below hb2)
    clear hb2
    cases okA : okF z l
    · go_wp2
      go_ret
      exact ⟨by first | rfl | (simp; done), BE.out⟩
    obtain ⟨k0, k1⟩ := FB.out
    go_wp2_with fail
    clear k0 k1
    refine (sOkF_any z' l' ao' cp' _ LB.out).mono ?_
    rintro e u2 ⟨rfl, hb2⟩
    have BE := mkHid (below_step BE.out hb2)
    have BY := mkHid (BY.out.old hb2)
    have FA := mkHid (FA.out.below hb2)
    have FB := mkHid (FB.out.below hb2)
    have LA := mkHid (LA.out.below hb2)
    have LB := mkHid (LB.out.below hb2)
    have FJ := mkHid (FJ.out.below hb2)
    have LJ := mkHid (LJ.out.below hb2)
    have FM := mkHid (FM.out.below hb2)
    have LM := mkHid (LM.out.below hb2)
    have FW := mkHid (FW.out.below hb2)
    have LW := mkHid (LW.out.below hb2)
    have FX := mkHid (FX.out.below hb2)
    have LX := mkHid (LX.out.below hb2)
    clear hb2
    cases okB : okF z' l'
    · go_wp2
      go_ret
      exact ⟨by first | rfl | (simp; done), BE.out⟩
    obtain ⟨f0, f1⟩ := FA.out
    obtain ⟨g0, g1⟩ := FB.out
    by_cases hzz : z = z'
    rotate_left
    · have hne : (z != z') = true := by simpa using hzz
      go_wp2
      go_ret
      exact ⟨by first | rfl | (simp; done), BE.out⟩
    subst hzz
    have hne : (z != z) = false := by simp
    obtain ⟨q, rfl, q1, q2, -, -, -⟩ := ok_of okA
    obtain ⟨k0, k1⟩ := FW.out
    by_cases hsl : 0 < lw.length
    · have hsl2 : (0 : Int) < (lw.length : Int) := by omega
      go_wp2_with fail
      clear f0 f1 g0 g1 k0 k1 hne
      go_loopg [15, 16, 17, 18, 19, 20, 21] 12 (fun g s15 s16 s17 s18 s19 s20 s21 wr => ∃ u : Nat, u + g = 12 ∧ s15 = .int .i64 u ∧ Below u2.heap.size u2 wr)
      case atStart => exact ⟨0, rfl, rfl, Below.refl _ _⟩
      case round =>
        obtain ⟨u, hu, rfl, hb2⟩ := hrel
        have B0 := mkHid hb2
        have BE := mkHid (below_step BE.out hb2)
        have BY := mkHid (BY.out.old hb2)
        have FA := mkHid (FA.out.below hb2)
        have FB := mkHid (FB.out.below hb2)
        have LA := mkHid (LA.out.below hb2)
        have LB := mkHid (LB.out.below hb2)
        have FJ := mkHid (FJ.out.below hb2)
        have LJ := mkHid (LJ.out.below hb2)
        have FM := mkHid (FM.out.below hb2)
        have LM := mkHid (LM.out.below hb2)
        have FW := mkHid (FW.out.below hb2)
        have LW := mkHid (LW.out.below hb2)
        have FX := mkHid (FX.out.below hb2)
        have LX := mkHid (LX.out.below hb2)
        clear hb2
        obtain ⟨f0, f1⟩ := FA.out
        cases gk with
        | zero =>
          have hlt : ¬ ((u : Int) < 12) := by omega
          go_wp2
          go_ret
          exact ⟨rfl, BE.out⟩
        | succ g =>
          have hlt : (u : Int) < 12 := by omega
          have h3 : IntKind.i64.wrap (3 * (u : Int)) = ((3 * u : Nat) : Int) := by rw [IntWalk.i64_in _ ⟨by omega, by omega⟩]; omega
          go_wp2_with fail
          first | rw [show (3 * (u : Int)) = ((3 * u : Nat) : Int) by omega] | skip
          refine (vals2_any n2 c2 (3 * u) (q : Int) a2 _ HM2.out BY.out (by omega) HZ.out.1).mono ?_
          rintro e w5' ⟨v, av, cv, rfl, hvl, hvg, hvo, hb2⟩
          rw [Int.toNat_natCast] at hvl
          rw [hvl] at hvo ⊢
          obtain ⟨gv, rfl⟩ := own_addr hvo (by omega)
          have OV := mkHid hvo
          have VG := mkHid hvg
          have VL := mkHid hvl
          have VV := mkHid (vok_of hvg hvl)
          have B0 := mkHid (below_step B0.out hb2)
          have BE := mkHid (below_step BE.out hb2)
          have BY := mkHid (BY.out.old hb2)
          have FA := mkHid (FA.out.below hb2)
          have FB := mkHid (FB.out.below hb2)
          have LA := mkHid (LA.out.below hb2)
          have LB := mkHid (LB.out.below hb2)
          have FJ := mkHid (FJ.out.below hb2)
          have LJ := mkHid (LJ.out.below hb2)
          have FM := mkHid (FM.out.below hb2)
          have LM := mkHid (LM.out.below hb2)
          have FW := mkHid (FW.out.below hb2)
          have LW := mkHid (LW.out.below hb2)
          have FX := mkHid (FX.out.below hb2)
          have LX := mkHid (LX.out.below hb2)
          clear hvo hvg hvl hb2 f0 f1 h3
          obtain ⟨f0, f1⟩ := FA.out
          go_wp2_with fail
          clear f0 f1
          have h9 := sHas_any (q : Int) l ao cp v (some ⟨gv, 0, none⟩) cv _ LA.out OV.out.at
          rw [VL.out] at h9
          refine h9.mono ?_
          clear h9
          rintro e y1 ⟨rfl, hb2⟩
          have B0 := mkHid (below_step B0.out hb2)
          have BE := mkHid (below_step BE.out hb2)
          have BY := mkHid (BY.out.old hb2)
          have FA := mkHid (FA.out.below hb2)
          have FB := mkHid (FB.out.below hb2)
          have LA := mkHid (LA.out.below hb2)
          have LB := mkHid (LB.out.below hb2)
          have FJ := mkHid (FJ.out.below hb2)
          have LJ := mkHid (LJ.out.below hb2)
          have FM := mkHid (FM.out.below hb2)
          have LM := mkHid (LM.out.below hb2)
          have FW := mkHid (FW.out.below hb2)
          have LW := mkHid (LW.out.below hb2)
          have FX := mkHid (FX.out.below hb2)
          have LX := mkHid (LX.out.below hb2)
          have OV := mkHid (OV.out.below hb2)
          clear hb2
          obtain ⟨f0, f1⟩ := FB.out
          go_wp2_with fail
          clear f0 f1
          have h9 := sHas_any (q : Int) l' ao' cp' v (some ⟨gv, 0, none⟩) cv _ LB.out OV.out.at
          rw [VL.out] at h9
          refine h9.mono ?_
          clear h9
          rintro e y2 ⟨rfl, hb2⟩
          have B0 := mkHid (below_step B0.out hb2)
          have BE := mkHid (below_step BE.out hb2)
          have BY := mkHid (BY.out.old hb2)
          have FA := mkHid (FA.out.below hb2)
          have FB := mkHid (FB.out.below hb2)
          have LA := mkHid (LA.out.below hb2)
          have LB := mkHid (LB.out.below hb2)
          have FJ := mkHid (FJ.out.below hb2)
          have LJ := mkHid (LJ.out.below hb2)
          have FM := mkHid (FM.out.below hb2)
          have LM := mkHid (LM.out.below hb2)
          have FW := mkHid (FW.out.below hb2)
          have LW := mkHid (LW.out.below hb2)
          have FX := mkHid (FX.out.below hb2)
          have LX := mkHid (LX.out.below hb2)
          have OV := mkHid (OV.out.below hb2)
          clear hb2
          have XX : Hid (hasF zx lx v = hasF q l v) := mkHid (by have := close_has okA VV.out; have e := EX.out; rw [Int.toNat_natCast] at e; rw [e.1, e.2] at this; exact this)
          have XM : Hid (hasF zm lm v = (hasF q l v && hasF q l' v)) := mkHid (by have := meet_has okA okB VV.out (met_fineO okA okB); have e := EM.out; rw [Int.toNat_natCast] at e; rw [e.1, e.2] at this; exact this)
          have XJ : Hid (hasF q l v = true ∨ hasF q l' v = true → hasF zj lj v = true) := mkHid (fun h => by have := join_has okA okB VV.out h; have e := EJ.out; rw [e.1, e.2] at this; exact this)
          have XW : Hid (hasF q l v = true ∨ hasF q l' v = true → hasF zw lw v = true) := mkHid (fun h => by have e := EW.out; have := wid_has (st := st) okA okB VV.out (by rw [e.2]; exact hsl) h; rw [e.1, e.2] at this; exact this)
          have HAD := mkHid (fun (i j : Nat) (c : Int) (hi : i < q) (hj : j < q) (hc : v.getD i 0 - v.getD j 0 ≤ c) (h0 : -2000000 ≤ c) (hh : hasF q l v = true) => add_has okA VV.out hh hi hj hc h0)
          cases hIA : hasF q l v
          · cases hIB : hasF q l' v
            · as_aux_lemma =>
                have xx := XX.out
                have xm := XM.out
                rw [hIA] at xx xm
                rw [hIB] at xm
                have xm : hasF zm lm v = false := xm
                clear XX XM XJ XW
                clear HAD
                obtain ⟨f0, f1⟩ := FX.out
                go_wp2_with fail
                clear f0 f1
                have h9 := iHas_any zx lx aX cX v (some ⟨gv, 0, none⟩) cv _ LX.out OV.out.at (by rw [VL.out]; unfold maxLen; omega)
                rw [xx, VL.out] at h9
                refine h9.mono ?_
                clear h9
                rintro e y3 ⟨rfl, hb2⟩
                have B0 := mkHid (below_step B0.out hb2)
                have BE := mkHid (below_step BE.out hb2)
                have BY := mkHid (BY.out.old hb2)
                have FA := mkHid (FA.out.below hb2)
                have FB := mkHid (FB.out.below hb2)
                have LA := mkHid (LA.out.below hb2)
                have LB := mkHid (LB.out.below hb2)
                have FJ := mkHid (FJ.out.below hb2)
                have LJ := mkHid (LJ.out.below hb2)
                have FM := mkHid (FM.out.below hb2)
                have LM := mkHid (LM.out.below hb2)
                have FW := mkHid (FW.out.below hb2)
                have LW := mkHid (LW.out.below hb2)
                have FX := mkHid (FX.out.below hb2)
                have LX := mkHid (LX.out.below hb2)
                have OV := mkHid (OV.out.below hb2)
                clear hb2
                obtain ⟨f0, f1⟩ := FM.out
                go_wp2_with fail
                clear f0 f1
                have h9 := iHas_any zm lm aM cM v (some ⟨gv, 0, none⟩) cv _ LM.out OV.out.at (by rw [VL.out]; unfold maxLen; omega)
                rw [xm, VL.out] at h9
                refine h9.mono ?_
                clear h9
                rintro e y5 ⟨rfl, hb2⟩
                have B0 := mkHid (below_step B0.out hb2)
                have BE := mkHid (below_step BE.out hb2)
                have BY := mkHid (BY.out.old hb2)
                have FA := mkHid (FA.out.below hb2)
                have FB := mkHid (FB.out.below hb2)
                have LA := mkHid (LA.out.below hb2)
                have LB := mkHid (LB.out.below hb2)
                have FJ := mkHid (FJ.out.below hb2)
                have LJ := mkHid (LJ.out.below hb2)
                have FM := mkHid (FM.out.below hb2)
                have LM := mkHid (LM.out.below hb2)
                have FW := mkHid (FW.out.below hb2)
                have LW := mkHid (LW.out.below hb2)
                have FX := mkHid (FX.out.below hb2)
                have LX := mkHid (LX.out.below hb2)
                have OV := mkHid (OV.out.below hb2)
                clear hb2
                obtain ⟨f0, f1⟩ := FA.out
                go_wp2_with fail
                refine (pick1_any n2 c2 _ u (q : Int) a2 _ HM2.out BY.out (by omega) (by omega) (by omega)).mono ?_
                rintro e y9 ⟨r, rfl, hr0, hri, rfl⟩
                obtain ⟨i, rfl⟩ : ∃ i : Nat, r = i := ⟨r.toNat, by omega⟩
                clear hr0
                have hp : IntKind.i64.wrap ((u : Int) + 3) = ((u + 3 : Nat) : Int) := by rw [IntWalk.i64_in _ ⟨by omega, by omega⟩]; omega
                go_wp2_with fail
                first | rw [show ((u : Int) + 3) = ((u + 3 : Nat) : Int) by omega] | skip
                refine (pick1_any n2 c2 _ (u + 3) (q : Int) a2 _ HM2.out BY.out (by omega) (by omega) (by omega)).mono ?_
                rintro e y9 ⟨r, rfl, hr0, hrj, rfl⟩
                obtain ⟨j, rfl⟩ : ∃ i : Nat, r = i := ⟨r.toNat, by omega⟩
                clear hr0 hp f0 f1
                have hi : i < q := by omega
                have hj : j < q := by omega
                obtain ⟨x, hx⟩ : ∃ x, v.getD i 0 = x := ⟨_, rfl⟩
                obtain ⟨hx0, hx1⟩ : -6 ≤ x ∧ x ≤ 17 := by rw [← hx]; exact VG.out.get (by rw [VL.out]; exact hi)
                obtain ⟨y, hy⟩ : ∃ y, v.getD j 0 = y := ⟨_, rfl⟩
                obtain ⟨hy0, hy1⟩ : -6 ≤ y ∧ y ≤ 17 := by rw [← hy]; exact VG.out.get (by rw [VL.out]; exact hj)
                have d0 := OV.out.cell (p := i) (by rw [VL.out]; exact hi)
                have d1 := OV.out.cell (p := j) (by rw [VL.out]; exact hj)
                rw [hx] at d0
                rw [hy] at d1
                have HXE := mkHid hx
                have HYE := mkHid hy
                clear hx hy
                have hp : IntKind.i64.wrap ((u : Int) + 6) = ((u + 6 : Nat) : Int) := by rw [IntWalk.i64_in _ ⟨by omega, by omega⟩]; omega
                obtain ⟨u6, hu6⟩ : ∃ k, u + 6 = k := ⟨_, rfl⟩
                rw [hu6] at hp
                have hu6b : u6 ≤ 100 := by omega
                clear hu6
                have hxy : IntKind.i64.wrap (x - y) = x - y := IntWalk.i64_in _ ⟨by omega, by omega⟩
                go_wp2_with fail
                go_region_held3 (fun v' => v'.cell? ⟨gv, i, none⟩ = some (.int .i64 x) ∧ v'.cell? ⟨gv, j, none⟩ = some (.int .i64 y))
                  (first | exact ⟨d0, d1⟩ | assumption)
                  (first | (go_at_call 22; refine (pick1_any n2 c2 _ u6 3 a2 _ HM2.out (BY.out.old (Below.refl _ _).drew) (by omega) (by omega) (by omega)).mono ?_; rintro e y9 ⟨r, rfl, r0, r1', rfl⟩; have hwr : IntKind.i64.wrap (x - y + r) = x - y + r := IntWalk.i64_in _ ⟨by omega, by omega⟩))
                all_goals
                  have hb2 := (Below.refl y5.heap.size y5).drew
                  have B0 := mkHid (below_step B0.out hb2)
                  have BE := mkHid (below_step BE.out hb2)
                  have BY := mkHid (BY.out.old hb2)
                  have FA := mkHid (FA.out.below hb2)
                  have FB := mkHid (FB.out.below hb2)
                  have LA := mkHid (LA.out.below hb2)
                  have LB := mkHid (LB.out.below hb2)
                  have FJ := mkHid (FJ.out.below hb2)
                  have LJ := mkHid (LJ.out.below hb2)
                  have FM := mkHid (FM.out.below hb2)
                  have LM := mkHid (LM.out.below hb2)
                  have FW := mkHid (FW.out.below hb2)
                  have LW := mkHid (LW.out.below hb2)
                  have FX := mkHid (FX.out.below hb2)
                  have LX := mkHid (LX.out.below hb2)
                  have OV := mkHid (OV.out.below hb2)
                  clear hb2 hp d0 d1 hxy
                  clear hwr
                  go_wp2
                  go_roundg g
                  case measure => omega
                  case rel => exact ⟨u + 1, by omega, by go_num, B0.out⟩
            · as_aux_lemma =>
                have xx := XX.out
                have xm := XM.out
                rw [hIA] at xx xm
                rw [hIB] at xm
                have xm : hasF zm lm v = false := xm
                have xj := XJ.out (.inr hIB)
                have xw := XW.out (.inr hIB)
                clear XX XM XJ XW
                clear HAD
                obtain ⟨f0, f1⟩ := FX.out
                go_wp2_with fail
                clear f0 f1
                have h9 := iHas_any zx lx aX cX v (some ⟨gv, 0, none⟩) cv _ LX.out OV.out.at (by rw [VL.out]; unfold maxLen; omega)
                rw [xx, VL.out] at h9
                refine h9.mono ?_
                clear h9
                rintro e y3 ⟨rfl, hb2⟩
                have B0 := mkHid (below_step B0.out hb2)
                have BE := mkHid (below_step BE.out hb2)
                have BY := mkHid (BY.out.old hb2)
                have FA := mkHid (FA.out.below hb2)
                have FB := mkHid (FB.out.below hb2)
                have LA := mkHid (LA.out.below hb2)
                have LB := mkHid (LB.out.below hb2)
                have FJ := mkHid (FJ.out.below hb2)
                have LJ := mkHid (LJ.out.below hb2)
                have FM := mkHid (FM.out.below hb2)
                have LM := mkHid (LM.out.below hb2)
                have FW := mkHid (FW.out.below hb2)
                have LW := mkHid (LW.out.below hb2)
                have FX := mkHid (FX.out.below hb2)
                have LX := mkHid (LX.out.below hb2)
                have OV := mkHid (OV.out.below hb2)
                clear hb2
                obtain ⟨f0, f1⟩ := FJ.out
                go_wp2_with fail
                clear f0 f1
                have h9 := iHas_any zj lj aJ cJ v (some ⟨gv, 0, none⟩) cv _ LJ.out OV.out.at (by rw [VL.out]; unfold maxLen; omega)
                rw [xj, VL.out] at h9
                refine h9.mono ?_
                clear h9
                rintro e y4 ⟨rfl, hb2⟩
                have B0 := mkHid (below_step B0.out hb2)
                have BE := mkHid (below_step BE.out hb2)
                have BY := mkHid (BY.out.old hb2)
                have FA := mkHid (FA.out.below hb2)
                have FB := mkHid (FB.out.below hb2)
                have LA := mkHid (LA.out.below hb2)
                have LB := mkHid (LB.out.below hb2)
                have FJ := mkHid (FJ.out.below hb2)
                have LJ := mkHid (LJ.out.below hb2)
                have FM := mkHid (FM.out.below hb2)
                have LM := mkHid (LM.out.below hb2)
                have FW := mkHid (FW.out.below hb2)
                have LW := mkHid (LW.out.below hb2)
                have FX := mkHid (FX.out.below hb2)
                have LX := mkHid (LX.out.below hb2)
                have OV := mkHid (OV.out.below hb2)
                clear hb2
                obtain ⟨f0, f1⟩ := FM.out
                go_wp2_with fail
                clear f0 f1
                have h9 := iHas_any zm lm aM cM v (some ⟨gv, 0, none⟩) cv _ LM.out OV.out.at (by rw [VL.out]; unfold maxLen; omega)
                rw [xm, VL.out] at h9
                refine h9.mono ?_
                clear h9
                rintro e y5 ⟨rfl, hb2⟩
                have B0 := mkHid (below_step B0.out hb2)
                have BE := mkHid (below_step BE.out hb2)
                have BY := mkHid (BY.out.old hb2)
                have FA := mkHid (FA.out.below hb2)
                have FB := mkHid (FB.out.below hb2)
                have LA := mkHid (LA.out.below hb2)
                have LB := mkHid (LB.out.below hb2)
                have FJ := mkHid (FJ.out.below hb2)
                have LJ := mkHid (LJ.out.below hb2)
                have FM := mkHid (FM.out.below hb2)
                have LM := mkHid (LM.out.below hb2)
                have FW := mkHid (FW.out.below hb2)
                have LW := mkHid (LW.out.below hb2)
                have FX := mkHid (FX.out.below hb2)
                have LX := mkHid (LX.out.below hb2)
                have OV := mkHid (OV.out.below hb2)
                clear hb2
                obtain ⟨f0, f1⟩ := FW.out
                go_wp2_with fail
                clear f0 f1
                have h9 := iHas_any zw lw aW cW v (some ⟨gv, 0, none⟩) cv _ LW.out OV.out.at (by rw [VL.out]; unfold maxLen; omega)
                rw [xw, VL.out] at h9
                refine h9.mono ?_
                clear h9
                rintro e y6 ⟨rfl, hb2⟩
                have B0 := mkHid (below_step B0.out hb2)
                have BE := mkHid (below_step BE.out hb2)
                have BY := mkHid (BY.out.old hb2)
                have FA := mkHid (FA.out.below hb2)
                have FB := mkHid (FB.out.below hb2)
                have LA := mkHid (LA.out.below hb2)
                have LB := mkHid (LB.out.below hb2)
                have FJ := mkHid (FJ.out.below hb2)
                have LJ := mkHid (LJ.out.below hb2)
                have FM := mkHid (FM.out.below hb2)
                have LM := mkHid (LM.out.below hb2)
                have FW := mkHid (FW.out.below hb2)
                have LW := mkHid (LW.out.below hb2)
                have FX := mkHid (FX.out.below hb2)
                have LX := mkHid (LX.out.below hb2)
                have OV := mkHid (OV.out.below hb2)
                clear hb2
                obtain ⟨f0, f1⟩ := FA.out
                go_wp2_with fail
                refine (pick1_any n2 c2 _ u (q : Int) a2 _ HM2.out BY.out (by omega) (by omega) (by omega)).mono ?_
                rintro e y9 ⟨r, rfl, hr0, hri, rfl⟩
                obtain ⟨i, rfl⟩ : ∃ i : Nat, r = i := ⟨r.toNat, by omega⟩
                clear hr0
                have hp : IntKind.i64.wrap ((u : Int) + 3) = ((u + 3 : Nat) : Int) := by rw [IntWalk.i64_in _ ⟨by omega, by omega⟩]; omega
                go_wp2_with fail
                first | rw [show ((u : Int) + 3) = ((u + 3 : Nat) : Int) by omega] | skip
                refine (pick1_any n2 c2 _ (u + 3) (q : Int) a2 _ HM2.out BY.out (by omega) (by omega) (by omega)).mono ?_
                rintro e y9 ⟨r, rfl, hr0, hrj, rfl⟩
                obtain ⟨j, rfl⟩ : ∃ i : Nat, r = i := ⟨r.toNat, by omega⟩
                clear hr0 hp f0 f1
                have hi : i < q := by omega
                have hj : j < q := by omega
                obtain ⟨x, hx⟩ : ∃ x, v.getD i 0 = x := ⟨_, rfl⟩
                obtain ⟨hx0, hx1⟩ : -6 ≤ x ∧ x ≤ 17 := by rw [← hx]; exact VG.out.get (by rw [VL.out]; exact hi)
                obtain ⟨y, hy⟩ : ∃ y, v.getD j 0 = y := ⟨_, rfl⟩
                obtain ⟨hy0, hy1⟩ : -6 ≤ y ∧ y ≤ 17 := by rw [← hy]; exact VG.out.get (by rw [VL.out]; exact hj)
                have d0 := OV.out.cell (p := i) (by rw [VL.out]; exact hi)
                have d1 := OV.out.cell (p := j) (by rw [VL.out]; exact hj)
                rw [hx] at d0
                rw [hy] at d1
                have HXE := mkHid hx
                have HYE := mkHid hy
                clear hx hy
                have hp : IntKind.i64.wrap ((u : Int) + 6) = ((u + 6 : Nat) : Int) := by rw [IntWalk.i64_in _ ⟨by omega, by omega⟩]; omega
                obtain ⟨u6, hu6⟩ : ∃ k, u + 6 = k := ⟨_, rfl⟩
                rw [hu6] at hp
                have hu6b : u6 ≤ 100 := by omega
                clear hu6
                have hxy : IntKind.i64.wrap (x - y) = x - y := IntWalk.i64_in _ ⟨by omega, by omega⟩
                go_wp2_with fail
                go_region_held3 (fun v' => v'.cell? ⟨gv, i, none⟩ = some (.int .i64 x) ∧ v'.cell? ⟨gv, j, none⟩ = some (.int .i64 y))
                  (first | exact ⟨d0, d1⟩ | assumption)
                  (first | (go_at_call 22; refine (pick1_any n2 c2 _ u6 3 a2 _ HM2.out (BY.out.old (Below.refl _ _).drew) (by omega) (by omega) (by omega)).mono ?_; rintro e y9 ⟨r, rfl, r0, r1', rfl⟩; have hwr : IntKind.i64.wrap (x - y + r) = x - y + r := IntWalk.i64_in _ ⟨by omega, by omega⟩))
                all_goals
                  have hb2 := (Below.refl y6.heap.size y6).drew
                  have B0 := mkHid (below_step B0.out hb2)
                  have BE := mkHid (below_step BE.out hb2)
                  have BY := mkHid (BY.out.old hb2)
                  have FA := mkHid (FA.out.below hb2)
                  have FB := mkHid (FB.out.below hb2)
                  have LA := mkHid (LA.out.below hb2)
                  have LB := mkHid (LB.out.below hb2)
                  have FJ := mkHid (FJ.out.below hb2)
                  have LJ := mkHid (LJ.out.below hb2)
                  have FM := mkHid (FM.out.below hb2)
                  have LM := mkHid (LM.out.below hb2)
                  have FW := mkHid (FW.out.below hb2)
                  have LW := mkHid (LW.out.below hb2)
                  have FX := mkHid (FX.out.below hb2)
                  have LX := mkHid (LX.out.below hb2)
                  have OV := mkHid (OV.out.below hb2)
                  clear hb2 hp d0 d1 hxy
                  clear hwr
                  go_wp2
                  go_roundg g
                  case measure => omega
                  case rel => exact ⟨u + 1, by omega, by go_num, B0.out⟩
          · cases hIB : hasF q l' v
            · as_aux_lemma =>
                have xx := XX.out
                have xm := XM.out
                rw [hIA] at xx xm
                rw [hIB] at xm
                have xm : hasF zm lm v = false := xm
                have xj := XJ.out (.inl hIA)
                have xw := XW.out (.inl hIA)
                clear XX XM XJ XW
                obtain ⟨f0, f1⟩ := FX.out
                go_wp2_with fail
                clear f0 f1
                have h9 := iHas_any zx lx aX cX v (some ⟨gv, 0, none⟩) cv _ LX.out OV.out.at (by rw [VL.out]; unfold maxLen; omega)
                rw [xx, VL.out] at h9
                refine h9.mono ?_
                clear h9
                rintro e y3 ⟨rfl, hb2⟩
                have B0 := mkHid (below_step B0.out hb2)
                have BE := mkHid (below_step BE.out hb2)
                have BY := mkHid (BY.out.old hb2)
                have FA := mkHid (FA.out.below hb2)
                have FB := mkHid (FB.out.below hb2)
                have LA := mkHid (LA.out.below hb2)
                have LB := mkHid (LB.out.below hb2)
                have FJ := mkHid (FJ.out.below hb2)
                have LJ := mkHid (LJ.out.below hb2)
                have FM := mkHid (FM.out.below hb2)
                have LM := mkHid (LM.out.below hb2)
                have FW := mkHid (FW.out.below hb2)
                have LW := mkHid (LW.out.below hb2)
                have FX := mkHid (FX.out.below hb2)
                have LX := mkHid (LX.out.below hb2)
                have OV := mkHid (OV.out.below hb2)
                clear hb2
                obtain ⟨f0, f1⟩ := FJ.out
                go_wp2_with fail
                clear f0 f1
                have h9 := iHas_any zj lj aJ cJ v (some ⟨gv, 0, none⟩) cv _ LJ.out OV.out.at (by rw [VL.out]; unfold maxLen; omega)
                rw [xj, VL.out] at h9
                refine h9.mono ?_
                clear h9
                rintro e y4 ⟨rfl, hb2⟩
                have B0 := mkHid (below_step B0.out hb2)
                have BE := mkHid (below_step BE.out hb2)
                have BY := mkHid (BY.out.old hb2)
                have FA := mkHid (FA.out.below hb2)
                have FB := mkHid (FB.out.below hb2)
                have LA := mkHid (LA.out.below hb2)
                have LB := mkHid (LB.out.below hb2)
                have FJ := mkHid (FJ.out.below hb2)
                have LJ := mkHid (LJ.out.below hb2)
                have FM := mkHid (FM.out.below hb2)
                have LM := mkHid (LM.out.below hb2)
                have FW := mkHid (FW.out.below hb2)
                have LW := mkHid (LW.out.below hb2)
                have FX := mkHid (FX.out.below hb2)
                have LX := mkHid (LX.out.below hb2)
                have OV := mkHid (OV.out.below hb2)
                clear hb2
                obtain ⟨f0, f1⟩ := FM.out
                go_wp2_with fail
                clear f0 f1
                have h9 := iHas_any zm lm aM cM v (some ⟨gv, 0, none⟩) cv _ LM.out OV.out.at (by rw [VL.out]; unfold maxLen; omega)
                rw [xm, VL.out] at h9
                refine h9.mono ?_
                clear h9
                rintro e y5 ⟨rfl, hb2⟩
                have B0 := mkHid (below_step B0.out hb2)
                have BE := mkHid (below_step BE.out hb2)
                have BY := mkHid (BY.out.old hb2)
                have FA := mkHid (FA.out.below hb2)
                have FB := mkHid (FB.out.below hb2)
                have LA := mkHid (LA.out.below hb2)
                have LB := mkHid (LB.out.below hb2)
                have FJ := mkHid (FJ.out.below hb2)
                have LJ := mkHid (LJ.out.below hb2)
                have FM := mkHid (FM.out.below hb2)
                have LM := mkHid (LM.out.below hb2)
                have FW := mkHid (FW.out.below hb2)
                have LW := mkHid (LW.out.below hb2)
                have FX := mkHid (FX.out.below hb2)
                have LX := mkHid (LX.out.below hb2)
                have OV := mkHid (OV.out.below hb2)
                clear hb2
                obtain ⟨f0, f1⟩ := FW.out
                go_wp2_with fail
                clear f0 f1
                have h9 := iHas_any zw lw aW cW v (some ⟨gv, 0, none⟩) cv _ LW.out OV.out.at (by rw [VL.out]; unfold maxLen; omega)
                rw [xw, VL.out] at h9
                refine h9.mono ?_
                clear h9
                rintro e y6 ⟨rfl, hb2⟩
                have B0 := mkHid (below_step B0.out hb2)
                have BE := mkHid (below_step BE.out hb2)
                have BY := mkHid (BY.out.old hb2)
                have FA := mkHid (FA.out.below hb2)
                have FB := mkHid (FB.out.below hb2)
                have LA := mkHid (LA.out.below hb2)
                have LB := mkHid (LB.out.below hb2)
                have FJ := mkHid (FJ.out.below hb2)
                have LJ := mkHid (LJ.out.below hb2)
                have FM := mkHid (FM.out.below hb2)
                have LM := mkHid (LM.out.below hb2)
                have FW := mkHid (FW.out.below hb2)
                have LW := mkHid (LW.out.below hb2)
                have FX := mkHid (FX.out.below hb2)
                have LX := mkHid (LX.out.below hb2)
                have OV := mkHid (OV.out.below hb2)
                clear hb2
                obtain ⟨f0, f1⟩ := FA.out
                go_wp2_with fail
                refine (pick1_any n2 c2 _ u (q : Int) a2 _ HM2.out BY.out (by omega) (by omega) (by omega)).mono ?_
                rintro e y9 ⟨r, rfl, hr0, hri, rfl⟩
                obtain ⟨i, rfl⟩ : ∃ i : Nat, r = i := ⟨r.toNat, by omega⟩
                clear hr0
                have hp : IntKind.i64.wrap ((u : Int) + 3) = ((u + 3 : Nat) : Int) := by rw [IntWalk.i64_in _ ⟨by omega, by omega⟩]; omega
                go_wp2_with fail
                first | rw [show ((u : Int) + 3) = ((u + 3 : Nat) : Int) by omega] | skip
                refine (pick1_any n2 c2 _ (u + 3) (q : Int) a2 _ HM2.out BY.out (by omega) (by omega) (by omega)).mono ?_
                rintro e y9 ⟨r, rfl, hr0, hrj, rfl⟩
                obtain ⟨j, rfl⟩ : ∃ i : Nat, r = i := ⟨r.toNat, by omega⟩
                clear hr0 hp f0 f1
                have hi : i < q := by omega
                have hj : j < q := by omega
                obtain ⟨x, hx⟩ : ∃ x, v.getD i 0 = x := ⟨_, rfl⟩
                obtain ⟨hx0, hx1⟩ : -6 ≤ x ∧ x ≤ 17 := by rw [← hx]; exact VG.out.get (by rw [VL.out]; exact hi)
                obtain ⟨y, hy⟩ : ∃ y, v.getD j 0 = y := ⟨_, rfl⟩
                obtain ⟨hy0, hy1⟩ : -6 ≤ y ∧ y ≤ 17 := by rw [← hy]; exact VG.out.get (by rw [VL.out]; exact hj)
                have d0 := OV.out.cell (p := i) (by rw [VL.out]; exact hi)
                have d1 := OV.out.cell (p := j) (by rw [VL.out]; exact hj)
                rw [hx] at d0
                rw [hy] at d1
                have HXE := mkHid hx
                have HYE := mkHid hy
                clear hx hy
                have hp : IntKind.i64.wrap ((u : Int) + 6) = ((u + 6 : Nat) : Int) := by rw [IntWalk.i64_in _ ⟨by omega, by omega⟩]; omega
                obtain ⟨u6, hu6⟩ : ∃ k, u + 6 = k := ⟨_, rfl⟩
                rw [hu6] at hp
                have hu6b : u6 ≤ 100 := by omega
                clear hu6
                have hxy : IntKind.i64.wrap (x - y) = x - y := IntWalk.i64_in _ ⟨by omega, by omega⟩
                go_wp2_with fail
                go_region_held3 (fun v' => v'.cell? ⟨gv, i, none⟩ = some (.int .i64 x) ∧ v'.cell? ⟨gv, j, none⟩ = some (.int .i64 y))
                  (first | exact ⟨d0, d1⟩ | assumption)
                  (first | (go_at_call 22; refine (pick1_any n2 c2 _ u6 3 a2 _ HM2.out (BY.out.old (Below.refl _ _).drew) (by omega) (by omega) (by omega)).mono ?_; rintro e y9 ⟨r, rfl, r0, r1', rfl⟩; have hwr : IntKind.i64.wrap (x - y + r) = x - y + r := IntWalk.i64_in _ ⟨by omega, by omega⟩))
                all_goals
                  have hb2 := (Below.refl y6.heap.size y6).drew
                  have B0 := mkHid (below_step B0.out hb2)
                  have BE := mkHid (below_step BE.out hb2)
                  have BY := mkHid (BY.out.old hb2)
                  have FA := mkHid (FA.out.below hb2)
                  have FB := mkHid (FB.out.below hb2)
                  have LA := mkHid (LA.out.below hb2)
                  have LB := mkHid (LB.out.below hb2)
                  have FJ := mkHid (FJ.out.below hb2)
                  have LJ := mkHid (LJ.out.below hb2)
                  have FM := mkHid (FM.out.below hb2)
                  have LM := mkHid (LM.out.below hb2)
                  have FW := mkHid (FW.out.below hb2)
                  have LW := mkHid (LW.out.below hb2)
                  have FX := mkHid (FX.out.below hb2)
                  have LX := mkHid (LX.out.below hb2)
                  have OV := mkHid (OV.out.below hb2)
                  clear hb2 hp d0 d1 hxy
                  obtain ⟨c, hc⟩ : ∃ c, x - y + r = c := ⟨_, rfl⟩
                  rw [hc]
                  have AD := HAD.out i j c hi hj (by rw [HXE.out, HYE.out]; omega) (by omega) hIA
                  obtain ⟨za, hza⟩ : ∃ s, outZ (addF q l i j c) q = s := ⟨_, rfl⟩
                  obtain ⟨la, hla⟩ : ∃ s, outL (addF q l i j c) q = s := ⟨_, rfl⟩
                  have HC9 : Hid (∀ v', IntsAt v' ao l → Calls Try.prog 23 #[.agg #[.int .i64 q, .slice ao l.length cp], .int .i64 i, .int .i64 j, .int .i64 c] v' fun e w' => Gives v' w' e za la) := mkHid fun v' h => by have := iAdd_any q l ao cp i j c v' HZ.out.2.2 h; rw [Int.toNat_natCast, hza, hla] at this; exact this
                  rw [hza, hla] at AD
                  clear hza hla hc hwr HAD
                  obtain ⟨f0, f1⟩ := FA.out
                  go_wp2_with fail
                  clear f0 f1
                  refine (HC9.out _ LA.out).mono ?_
                  rintro e y7 ⟨ab, cb, rfl, hO, hb2⟩
                  have LQ := mkHid hO.at
                  have B0 := mkHid (below_step B0.out hb2)
                  have BE := mkHid (below_step BE.out hb2)
                  have BY := mkHid (BY.out.old hb2)
                  have FA := mkHid (FA.out.below hb2)
                  have FB := mkHid (FB.out.below hb2)
                  have LA := mkHid (LA.out.below hb2)
                  have LB := mkHid (LB.out.below hb2)
                  have FJ := mkHid (FJ.out.below hb2)
                  have LJ := mkHid (LJ.out.below hb2)
                  have FM := mkHid (FM.out.below hb2)
                  have LM := mkHid (LM.out.below hb2)
                  have FW := mkHid (FW.out.below hb2)
                  have LW := mkHid (LW.out.below hb2)
                  have FX := mkHid (FX.out.below hb2)
                  have LX := mkHid (LX.out.below hb2)
                  have OV := mkHid (OV.out.below hb2)
                  clear hO hb2 HC9
                  go_wp2_with fail
                  have h9 := iHas_any za la ab cb v (some ⟨gv, 0, none⟩) cv _ LQ.out OV.out.at (by rw [VL.out]; unfold maxLen; omega)
                  rw [AD, VL.out] at h9
                  refine h9.mono ?_
                  clear h9
                  rintro e y8 ⟨rfl, hb2⟩
                  have B0 := mkHid (below_step B0.out hb2)
                  clear hb2
                  go_wp2
                  go_roundg g
                  case measure => omega
                  case rel => exact ⟨u + 1, by omega, by go_num, B0.out⟩
            · as_aux_lemma =>
                have xx := XX.out
                have xm := XM.out
                rw [hIA] at xx xm
                rw [hIB] at xm
                have xm : hasF zm lm v = true := xm
                have xj := XJ.out (.inl hIA)
                have xw := XW.out (.inl hIA)
                clear XX XM XJ XW
                obtain ⟨f0, f1⟩ := FX.out
                go_wp2_with fail
                clear f0 f1
                have h9 := iHas_any zx lx aX cX v (some ⟨gv, 0, none⟩) cv _ LX.out OV.out.at (by rw [VL.out]; unfold maxLen; omega)
                rw [xx, VL.out] at h9
                refine h9.mono ?_
                clear h9
                rintro e y3 ⟨rfl, hb2⟩
                have B0 := mkHid (below_step B0.out hb2)
                have BE := mkHid (below_step BE.out hb2)
                have BY := mkHid (BY.out.old hb2)
                have FA := mkHid (FA.out.below hb2)
                have FB := mkHid (FB.out.below hb2)
                have LA := mkHid (LA.out.below hb2)
                have LB := mkHid (LB.out.below hb2)
                have FJ := mkHid (FJ.out.below hb2)
                have LJ := mkHid (LJ.out.below hb2)
                have FM := mkHid (FM.out.below hb2)
                have LM := mkHid (LM.out.below hb2)
                have FW := mkHid (FW.out.below hb2)
                have LW := mkHid (LW.out.below hb2)
                have FX := mkHid (FX.out.below hb2)
                have LX := mkHid (LX.out.below hb2)
                have OV := mkHid (OV.out.below hb2)
                clear hb2
                obtain ⟨f0, f1⟩ := FJ.out
                go_wp2_with fail
                clear f0 f1
                have h9 := iHas_any zj lj aJ cJ v (some ⟨gv, 0, none⟩) cv _ LJ.out OV.out.at (by rw [VL.out]; unfold maxLen; omega)
                rw [xj, VL.out] at h9
                refine h9.mono ?_
                clear h9
                rintro e y4 ⟨rfl, hb2⟩
                have B0 := mkHid (below_step B0.out hb2)
                have BE := mkHid (below_step BE.out hb2)
                have BY := mkHid (BY.out.old hb2)
                have FA := mkHid (FA.out.below hb2)
                have FB := mkHid (FB.out.below hb2)
                have LA := mkHid (LA.out.below hb2)
                have LB := mkHid (LB.out.below hb2)
                have FJ := mkHid (FJ.out.below hb2)
                have LJ := mkHid (LJ.out.below hb2)
                have FM := mkHid (FM.out.below hb2)
                have LM := mkHid (LM.out.below hb2)
                have FW := mkHid (FW.out.below hb2)
                have LW := mkHid (LW.out.below hb2)
                have FX := mkHid (FX.out.below hb2)
                have LX := mkHid (LX.out.below hb2)
                have OV := mkHid (OV.out.below hb2)
                clear hb2
                obtain ⟨f0, f1⟩ := FM.out
                go_wp2_with fail
                clear f0 f1
                have h9 := iHas_any zm lm aM cM v (some ⟨gv, 0, none⟩) cv _ LM.out OV.out.at (by rw [VL.out]; unfold maxLen; omega)
                rw [xm, VL.out] at h9
                refine h9.mono ?_
                clear h9
                rintro e y5 ⟨rfl, hb2⟩
                have B0 := mkHid (below_step B0.out hb2)
                have BE := mkHid (below_step BE.out hb2)
                have BY := mkHid (BY.out.old hb2)
                have FA := mkHid (FA.out.below hb2)
                have FB := mkHid (FB.out.below hb2)
                have LA := mkHid (LA.out.below hb2)
                have LB := mkHid (LB.out.below hb2)
                have FJ := mkHid (FJ.out.below hb2)
                have LJ := mkHid (LJ.out.below hb2)
                have FM := mkHid (FM.out.below hb2)
                have LM := mkHid (LM.out.below hb2)
                have FW := mkHid (FW.out.below hb2)
                have LW := mkHid (LW.out.below hb2)
                have FX := mkHid (FX.out.below hb2)
                have LX := mkHid (LX.out.below hb2)
                have OV := mkHid (OV.out.below hb2)
                clear hb2
                obtain ⟨f0, f1⟩ := FW.out
                go_wp2_with fail
                clear f0 f1
                have h9 := iHas_any zw lw aW cW v (some ⟨gv, 0, none⟩) cv _ LW.out OV.out.at (by rw [VL.out]; unfold maxLen; omega)
                rw [xw, VL.out] at h9
                refine h9.mono ?_
                clear h9
                rintro e y6 ⟨rfl, hb2⟩
                have B0 := mkHid (below_step B0.out hb2)
                have BE := mkHid (below_step BE.out hb2)
                have BY := mkHid (BY.out.old hb2)
                have FA := mkHid (FA.out.below hb2)
                have FB := mkHid (FB.out.below hb2)
                have LA := mkHid (LA.out.below hb2)
                have LB := mkHid (LB.out.below hb2)
                have FJ := mkHid (FJ.out.below hb2)
                have LJ := mkHid (LJ.out.below hb2)
                have FM := mkHid (FM.out.below hb2)
                have LM := mkHid (LM.out.below hb2)
                have FW := mkHid (FW.out.below hb2)
                have LW := mkHid (LW.out.below hb2)
                have FX := mkHid (FX.out.below hb2)
                have LX := mkHid (LX.out.below hb2)
                have OV := mkHid (OV.out.below hb2)
                clear hb2
                obtain ⟨f0, f1⟩ := FA.out
                go_wp2_with fail
                refine (pick1_any n2 c2 _ u (q : Int) a2 _ HM2.out BY.out (by omega) (by omega) (by omega)).mono ?_
                rintro e y9 ⟨r, rfl, hr0, hri, rfl⟩
                obtain ⟨i, rfl⟩ : ∃ i : Nat, r = i := ⟨r.toNat, by omega⟩
                clear hr0
                have hp : IntKind.i64.wrap ((u : Int) + 3) = ((u + 3 : Nat) : Int) := by rw [IntWalk.i64_in _ ⟨by omega, by omega⟩]; omega
                go_wp2_with fail
                first | rw [show ((u : Int) + 3) = ((u + 3 : Nat) : Int) by omega] | skip
                refine (pick1_any n2 c2 _ (u + 3) (q : Int) a2 _ HM2.out BY.out (by omega) (by omega) (by omega)).mono ?_
                rintro e y9 ⟨r, rfl, hr0, hrj, rfl⟩
                obtain ⟨j, rfl⟩ : ∃ i : Nat, r = i := ⟨r.toNat, by omega⟩
                clear hr0 hp f0 f1
                have hi : i < q := by omega
                have hj : j < q := by omega
                obtain ⟨x, hx⟩ : ∃ x, v.getD i 0 = x := ⟨_, rfl⟩
                obtain ⟨hx0, hx1⟩ : -6 ≤ x ∧ x ≤ 17 := by rw [← hx]; exact VG.out.get (by rw [VL.out]; exact hi)
                obtain ⟨y, hy⟩ : ∃ y, v.getD j 0 = y := ⟨_, rfl⟩
                obtain ⟨hy0, hy1⟩ : -6 ≤ y ∧ y ≤ 17 := by rw [← hy]; exact VG.out.get (by rw [VL.out]; exact hj)
                have d0 := OV.out.cell (p := i) (by rw [VL.out]; exact hi)
                have d1 := OV.out.cell (p := j) (by rw [VL.out]; exact hj)
                rw [hx] at d0
                rw [hy] at d1
                have HXE := mkHid hx
                have HYE := mkHid hy
                clear hx hy
                have hp : IntKind.i64.wrap ((u : Int) + 6) = ((u + 6 : Nat) : Int) := by rw [IntWalk.i64_in _ ⟨by omega, by omega⟩]; omega
                obtain ⟨u6, hu6⟩ : ∃ k, u + 6 = k := ⟨_, rfl⟩
                rw [hu6] at hp
                have hu6b : u6 ≤ 100 := by omega
                clear hu6
                have hxy : IntKind.i64.wrap (x - y) = x - y := IntWalk.i64_in _ ⟨by omega, by omega⟩
                go_wp2_with fail
                go_region_held3 (fun v' => v'.cell? ⟨gv, i, none⟩ = some (.int .i64 x) ∧ v'.cell? ⟨gv, j, none⟩ = some (.int .i64 y))
                  (first | exact ⟨d0, d1⟩ | assumption)
                  (first | (go_at_call 22; refine (pick1_any n2 c2 _ u6 3 a2 _ HM2.out (BY.out.old (Below.refl _ _).drew) (by omega) (by omega) (by omega)).mono ?_; rintro e y9 ⟨r, rfl, r0, r1', rfl⟩; have hwr : IntKind.i64.wrap (x - y + r) = x - y + r := IntWalk.i64_in _ ⟨by omega, by omega⟩))
                all_goals
                  have hb2 := (Below.refl y6.heap.size y6).drew
                  have B0 := mkHid (below_step B0.out hb2)
                  have BE := mkHid (below_step BE.out hb2)
                  have BY := mkHid (BY.out.old hb2)
                  have FA := mkHid (FA.out.below hb2)
                  have FB := mkHid (FB.out.below hb2)
                  have LA := mkHid (LA.out.below hb2)
                  have LB := mkHid (LB.out.below hb2)
                  have FJ := mkHid (FJ.out.below hb2)
                  have LJ := mkHid (LJ.out.below hb2)
                  have FM := mkHid (FM.out.below hb2)
                  have LM := mkHid (LM.out.below hb2)
                  have FW := mkHid (FW.out.below hb2)
                  have LW := mkHid (LW.out.below hb2)
                  have FX := mkHid (FX.out.below hb2)
                  have LX := mkHid (LX.out.below hb2)
                  have OV := mkHid (OV.out.below hb2)
                  clear hb2 hp d0 d1 hxy
                  obtain ⟨c, hc⟩ : ∃ c, x - y + r = c := ⟨_, rfl⟩
                  rw [hc]
                  have AD := HAD.out i j c hi hj (by rw [HXE.out, HYE.out]; omega) (by omega) hIA
                  obtain ⟨za, hza⟩ : ∃ s, outZ (addF q l i j c) q = s := ⟨_, rfl⟩
                  obtain ⟨la, hla⟩ : ∃ s, outL (addF q l i j c) q = s := ⟨_, rfl⟩
                  have HC9 : Hid (∀ v', IntsAt v' ao l → Calls Try.prog 23 #[.agg #[.int .i64 q, .slice ao l.length cp], .int .i64 i, .int .i64 j, .int .i64 c] v' fun e w' => Gives v' w' e za la) := mkHid fun v' h => by have := iAdd_any q l ao cp i j c v' HZ.out.2.2 h; rw [Int.toNat_natCast, hza, hla] at this; exact this
                  rw [hza, hla] at AD
                  clear hza hla hc hwr HAD
                  obtain ⟨f0, f1⟩ := FA.out
                  go_wp2_with fail
                  clear f0 f1
                  refine (HC9.out _ LA.out).mono ?_
                  rintro e y7 ⟨ab, cb, rfl, hO, hb2⟩
                  have LQ := mkHid hO.at
                  have B0 := mkHid (below_step B0.out hb2)
                  have BE := mkHid (below_step BE.out hb2)
                  have BY := mkHid (BY.out.old hb2)
                  have FA := mkHid (FA.out.below hb2)
                  have FB := mkHid (FB.out.below hb2)
                  have LA := mkHid (LA.out.below hb2)
                  have LB := mkHid (LB.out.below hb2)
                  have FJ := mkHid (FJ.out.below hb2)
                  have LJ := mkHid (LJ.out.below hb2)
                  have FM := mkHid (FM.out.below hb2)
                  have LM := mkHid (LM.out.below hb2)
                  have FW := mkHid (FW.out.below hb2)
                  have LW := mkHid (LW.out.below hb2)
                  have FX := mkHid (FX.out.below hb2)
                  have LX := mkHid (LX.out.below hb2)
                  have OV := mkHid (OV.out.below hb2)
                  clear hO hb2 HC9
                  go_wp2_with fail
                  have h9 := iHas_any za la ab cb v (some ⟨gv, 0, none⟩) cv _ LQ.out OV.out.at (by rw [VL.out]; unfold maxLen; omega)
                  rw [AD, VL.out] at h9
                  refine h9.mono ?_
                  clear h9
                  rintro e y8 ⟨rfl, hb2⟩
                  have B0 := mkHid (below_step B0.out hb2)
                  clear hb2
                  go_wp2
                  go_roundg g
                  case measure => omega
                  case rel => exact ⟨u + 1, by omega, by go_num, B0.out⟩
    · have hsl2 : ¬ (0 : Int) < (lw.length : Int) := by omega
      go_wp2_with fail
      clear f0 f1 g0 g1 k0 k1 hne
      go_loopg [15, 16, 17, 18, 19, 20, 21] 12 (fun g s15 s16 s17 s18 s19 s20 s21 wr => ∃ u : Nat, u + g = 12 ∧ s15 = .int .i64 u ∧ Below u2.heap.size u2 wr)
      case atStart => exact ⟨0, rfl, rfl, Below.refl _ _⟩
      case round =>
        obtain ⟨u, hu, rfl, hb2⟩ := hrel
        have B0 := mkHid hb2
        have BE := mkHid (below_step BE.out hb2)
        have BY := mkHid (BY.out.old hb2)
        have FA := mkHid (FA.out.below hb2)
        have FB := mkHid (FB.out.below hb2)
        have LA := mkHid (LA.out.below hb2)
        have LB := mkHid (LB.out.below hb2)
        have FJ := mkHid (FJ.out.below hb2)
        have LJ := mkHid (LJ.out.below hb2)
        have FM := mkHid (FM.out.below hb2)
        have LM := mkHid (LM.out.below hb2)
        have FW := mkHid (FW.out.below hb2)
        have LW := mkHid (LW.out.below hb2)
        have FX := mkHid (FX.out.below hb2)
        have LX := mkHid (LX.out.below hb2)
        clear hb2
        obtain ⟨f0, f1⟩ := FA.out
        cases gk with
        | zero =>
          have hlt : ¬ ((u : Int) < 12) := by omega
          go_wp2
          go_ret
          exact ⟨rfl, BE.out⟩
        | succ g =>
          have hlt : (u : Int) < 12 := by omega
          have h3 : IntKind.i64.wrap (3 * (u : Int)) = ((3 * u : Nat) : Int) := by rw [IntWalk.i64_in _ ⟨by omega, by omega⟩]; omega
          go_wp2_with fail
          first | rw [show (3 * (u : Int)) = ((3 * u : Nat) : Int) by omega] | skip
          refine (vals2_any n2 c2 (3 * u) (q : Int) a2 _ HM2.out BY.out (by omega) HZ.out.1).mono ?_
          rintro e w5' ⟨v, av, cv, rfl, hvl, hvg, hvo, hb2⟩
          rw [Int.toNat_natCast] at hvl
          rw [hvl] at hvo ⊢
          obtain ⟨gv, rfl⟩ := own_addr hvo (by omega)
          have OV := mkHid hvo
          have VG := mkHid hvg
          have VL := mkHid hvl
          have VV := mkHid (vok_of hvg hvl)
          have B0 := mkHid (below_step B0.out hb2)
          have BE := mkHid (below_step BE.out hb2)
          have BY := mkHid (BY.out.old hb2)
          have FA := mkHid (FA.out.below hb2)
          have FB := mkHid (FB.out.below hb2)
          have LA := mkHid (LA.out.below hb2)
          have LB := mkHid (LB.out.below hb2)
          have FJ := mkHid (FJ.out.below hb2)
          have LJ := mkHid (LJ.out.below hb2)
          have FM := mkHid (FM.out.below hb2)
          have LM := mkHid (LM.out.below hb2)
          have FW := mkHid (FW.out.below hb2)
          have LW := mkHid (LW.out.below hb2)
          have FX := mkHid (FX.out.below hb2)
          have LX := mkHid (LX.out.below hb2)
          clear hvo hvg hvl hb2 f0 f1 h3
          obtain ⟨f0, f1⟩ := FA.out
          go_wp2_with fail
          clear f0 f1
          have h9 := sHas_any (q : Int) l ao cp v (some ⟨gv, 0, none⟩) cv _ LA.out OV.out.at
          rw [VL.out] at h9
          refine h9.mono ?_
          clear h9
          rintro e y1 ⟨rfl, hb2⟩
          have B0 := mkHid (below_step B0.out hb2)
          have BE := mkHid (below_step BE.out hb2)
          have BY := mkHid (BY.out.old hb2)
          have FA := mkHid (FA.out.below hb2)
          have FB := mkHid (FB.out.below hb2)
          have LA := mkHid (LA.out.below hb2)
          have LB := mkHid (LB.out.below hb2)
          have FJ := mkHid (FJ.out.below hb2)
          have LJ := mkHid (LJ.out.below hb2)
          have FM := mkHid (FM.out.below hb2)
          have LM := mkHid (LM.out.below hb2)
          have FW := mkHid (FW.out.below hb2)
          have LW := mkHid (LW.out.below hb2)
          have FX := mkHid (FX.out.below hb2)
          have LX := mkHid (LX.out.below hb2)
          have OV := mkHid (OV.out.below hb2)
          clear hb2
          obtain ⟨f0, f1⟩ := FB.out
          go_wp2_with fail
          clear f0 f1
          have h9 := sHas_any (q : Int) l' ao' cp' v (some ⟨gv, 0, none⟩) cv _ LB.out OV.out.at
          rw [VL.out] at h9
          refine h9.mono ?_
          clear h9
          rintro e y2 ⟨rfl, hb2⟩
          have B0 := mkHid (below_step B0.out hb2)
          have BE := mkHid (below_step BE.out hb2)
          have BY := mkHid (BY.out.old hb2)
          have FA := mkHid (FA.out.below hb2)
          have FB := mkHid (FB.out.below hb2)
          have LA := mkHid (LA.out.below hb2)
          have LB := mkHid (LB.out.below hb2)
          have FJ := mkHid (FJ.out.below hb2)
          have LJ := mkHid (LJ.out.below hb2)
          have FM := mkHid (FM.out.below hb2)
          have LM := mkHid (LM.out.below hb2)
          have FW := mkHid (FW.out.below hb2)
          have LW := mkHid (LW.out.below hb2)
          have FX := mkHid (FX.out.below hb2)
          have LX := mkHid (LX.out.below hb2)
          have OV := mkHid (OV.out.below hb2)
          clear hb2
          have XX : Hid (hasF zx lx v = hasF q l v) := mkHid (by have := close_has okA VV.out; have e := EX.out; rw [Int.toNat_natCast] at e; rw [e.1, e.2] at this; exact this)
          have XM : Hid (hasF zm lm v = (hasF q l v && hasF q l' v)) := mkHid (by have := meet_has okA okB VV.out (met_fineO okA okB); have e := EM.out; rw [Int.toNat_natCast] at e; rw [e.1, e.2] at this; exact this)
          have XJ : Hid (hasF q l v = true ∨ hasF q l' v = true → hasF zj lj v = true) := mkHid (fun h => by have := join_has okA okB VV.out h; have e := EJ.out; rw [e.1, e.2] at this; exact this)
          have HAD := mkHid (fun (i j : Nat) (c : Int) (hi : i < q) (hj : j < q) (hc : v.getD i 0 - v.getD j 0 ≤ c) (h0 : -2000000 ≤ c) (hh : hasF q l v = true) => add_has okA VV.out hh hi hj hc h0)
          cases hIA : hasF q l v
          · cases hIB : hasF q l' v
            · as_aux_lemma =>
                have xx := XX.out
                have xm := XM.out
                rw [hIA] at xx xm
                rw [hIB] at xm
                have xm : hasF zm lm v = false := xm
                clear XX XM XJ
                clear HAD
                obtain ⟨f0, f1⟩ := FX.out
                go_wp2_with fail
                clear f0 f1
                have h9 := iHas_any zx lx aX cX v (some ⟨gv, 0, none⟩) cv _ LX.out OV.out.at (by rw [VL.out]; unfold maxLen; omega)
                rw [xx, VL.out] at h9
                refine h9.mono ?_
                clear h9
                rintro e y3 ⟨rfl, hb2⟩
                have B0 := mkHid (below_step B0.out hb2)
                have BE := mkHid (below_step BE.out hb2)
                have BY := mkHid (BY.out.old hb2)
                have FA := mkHid (FA.out.below hb2)
                have FB := mkHid (FB.out.below hb2)
                have LA := mkHid (LA.out.below hb2)
                have LB := mkHid (LB.out.below hb2)
                have FJ := mkHid (FJ.out.below hb2)
                have LJ := mkHid (LJ.out.below hb2)
                have FM := mkHid (FM.out.below hb2)
                have LM := mkHid (LM.out.below hb2)
                have FW := mkHid (FW.out.below hb2)
                have LW := mkHid (LW.out.below hb2)
                have FX := mkHid (FX.out.below hb2)
                have LX := mkHid (LX.out.below hb2)
                have OV := mkHid (OV.out.below hb2)
                clear hb2
                obtain ⟨f0, f1⟩ := FM.out
                go_wp2_with fail
                clear f0 f1
                have h9 := iHas_any zm lm aM cM v (some ⟨gv, 0, none⟩) cv _ LM.out OV.out.at (by rw [VL.out]; unfold maxLen; omega)
                rw [xm, VL.out] at h9
                refine h9.mono ?_
                clear h9
                rintro e y5 ⟨rfl, hb2⟩
                have B0 := mkHid (below_step B0.out hb2)
                have BE := mkHid (below_step BE.out hb2)
                have BY := mkHid (BY.out.old hb2)
                have FA := mkHid (FA.out.below hb2)
                have FB := mkHid (FB.out.below hb2)
                have LA := mkHid (LA.out.below hb2)
                have LB := mkHid (LB.out.below hb2)
                have FJ := mkHid (FJ.out.below hb2)
                have LJ := mkHid (LJ.out.below hb2)
                have FM := mkHid (FM.out.below hb2)
                have LM := mkHid (LM.out.below hb2)
                have FW := mkHid (FW.out.below hb2)
                have LW := mkHid (LW.out.below hb2)
                have FX := mkHid (FX.out.below hb2)
                have LX := mkHid (LX.out.below hb2)
                have OV := mkHid (OV.out.below hb2)
                clear hb2
                obtain ⟨f0, f1⟩ := FA.out
                go_wp2_with fail
                refine (pick1_any n2 c2 _ u (q : Int) a2 _ HM2.out BY.out (by omega) (by omega) (by omega)).mono ?_
                rintro e y9 ⟨r, rfl, hr0, hri, rfl⟩
                obtain ⟨i, rfl⟩ : ∃ i : Nat, r = i := ⟨r.toNat, by omega⟩
                clear hr0
                have hp : IntKind.i64.wrap ((u : Int) + 3) = ((u + 3 : Nat) : Int) := by rw [IntWalk.i64_in _ ⟨by omega, by omega⟩]; omega
                go_wp2_with fail
                first | rw [show ((u : Int) + 3) = ((u + 3 : Nat) : Int) by omega] | skip
                refine (pick1_any n2 c2 _ (u + 3) (q : Int) a2 _ HM2.out BY.out (by omega) (by omega) (by omega)).mono ?_
                rintro e y9 ⟨r, rfl, hr0, hrj, rfl⟩
                obtain ⟨j, rfl⟩ : ∃ i : Nat, r = i := ⟨r.toNat, by omega⟩
                clear hr0 hp f0 f1
                have hi : i < q := by omega
                have hj : j < q := by omega
                obtain ⟨x, hx⟩ : ∃ x, v.getD i 0 = x := ⟨_, rfl⟩
                obtain ⟨hx0, hx1⟩ : -6 ≤ x ∧ x ≤ 17 := by rw [← hx]; exact VG.out.get (by rw [VL.out]; exact hi)
                obtain ⟨y, hy⟩ : ∃ y, v.getD j 0 = y := ⟨_, rfl⟩
                obtain ⟨hy0, hy1⟩ : -6 ≤ y ∧ y ≤ 17 := by rw [← hy]; exact VG.out.get (by rw [VL.out]; exact hj)
                have d0 := OV.out.cell (p := i) (by rw [VL.out]; exact hi)
                have d1 := OV.out.cell (p := j) (by rw [VL.out]; exact hj)
                rw [hx] at d0
                rw [hy] at d1
                have HXE := mkHid hx
                have HYE := mkHid hy
                clear hx hy
                have hp : IntKind.i64.wrap ((u : Int) + 6) = ((u + 6 : Nat) : Int) := by rw [IntWalk.i64_in _ ⟨by omega, by omega⟩]; omega
                obtain ⟨u6, hu6⟩ : ∃ k, u + 6 = k := ⟨_, rfl⟩
                rw [hu6] at hp
                have hu6b : u6 ≤ 100 := by omega
                clear hu6
                have hxy : IntKind.i64.wrap (x - y) = x - y := IntWalk.i64_in _ ⟨by omega, by omega⟩
                go_wp2_with fail
                go_region_held3 (fun v' => v'.cell? ⟨gv, i, none⟩ = some (.int .i64 x) ∧ v'.cell? ⟨gv, j, none⟩ = some (.int .i64 y))
                  (first | exact ⟨d0, d1⟩ | assumption)
                  (first | (go_at_call 22; refine (pick1_any n2 c2 _ u6 3 a2 _ HM2.out (BY.out.old (Below.refl _ _).drew) (by omega) (by omega) (by omega)).mono ?_; rintro e y9 ⟨r, rfl, r0, r1', rfl⟩; have hwr : IntKind.i64.wrap (x - y + r) = x - y + r := IntWalk.i64_in _ ⟨by omega, by omega⟩))
                all_goals
                  have hb2 := (Below.refl y5.heap.size y5).drew
                  have B0 := mkHid (below_step B0.out hb2)
                  have BE := mkHid (below_step BE.out hb2)
                  have BY := mkHid (BY.out.old hb2)
                  have FA := mkHid (FA.out.below hb2)
                  have FB := mkHid (FB.out.below hb2)
                  have LA := mkHid (LA.out.below hb2)
                  have LB := mkHid (LB.out.below hb2)
                  have FJ := mkHid (FJ.out.below hb2)
                  have LJ := mkHid (LJ.out.below hb2)
                  have FM := mkHid (FM.out.below hb2)
                  have LM := mkHid (LM.out.below hb2)
                  have FW := mkHid (FW.out.below hb2)
                  have LW := mkHid (LW.out.below hb2)
                  have FX := mkHid (FX.out.below hb2)
                  have LX := mkHid (LX.out.below hb2)
                  have OV := mkHid (OV.out.below hb2)
                  clear hb2 hp d0 d1 hxy
                  clear hwr
                  go_wp2
                  go_roundg g
                  case measure => omega
                  case rel => exact ⟨u + 1, by omega, by go_num, B0.out⟩
            · as_aux_lemma =>
                have xx := XX.out
                have xm := XM.out
                rw [hIA] at xx xm
                rw [hIB] at xm
                have xm : hasF zm lm v = false := xm
                have xj := XJ.out (.inr hIB)
                clear XX XM XJ
                clear HAD
                obtain ⟨f0, f1⟩ := FX.out
                go_wp2_with fail
                clear f0 f1
                have h9 := iHas_any zx lx aX cX v (some ⟨gv, 0, none⟩) cv _ LX.out OV.out.at (by rw [VL.out]; unfold maxLen; omega)
                rw [xx, VL.out] at h9
                refine h9.mono ?_
                clear h9
                rintro e y3 ⟨rfl, hb2⟩
                have B0 := mkHid (below_step B0.out hb2)
                have BE := mkHid (below_step BE.out hb2)
                have BY := mkHid (BY.out.old hb2)
                have FA := mkHid (FA.out.below hb2)
                have FB := mkHid (FB.out.below hb2)
                have LA := mkHid (LA.out.below hb2)
                have LB := mkHid (LB.out.below hb2)
                have FJ := mkHid (FJ.out.below hb2)
                have LJ := mkHid (LJ.out.below hb2)
                have FM := mkHid (FM.out.below hb2)
                have LM := mkHid (LM.out.below hb2)
                have FW := mkHid (FW.out.below hb2)
                have LW := mkHid (LW.out.below hb2)
                have FX := mkHid (FX.out.below hb2)
                have LX := mkHid (LX.out.below hb2)
                have OV := mkHid (OV.out.below hb2)
                clear hb2
                obtain ⟨f0, f1⟩ := FJ.out
                go_wp2_with fail
                clear f0 f1
                have h9 := iHas_any zj lj aJ cJ v (some ⟨gv, 0, none⟩) cv _ LJ.out OV.out.at (by rw [VL.out]; unfold maxLen; omega)
                rw [xj, VL.out] at h9
                refine h9.mono ?_
                clear h9
                rintro e y4 ⟨rfl, hb2⟩
                have B0 := mkHid (below_step B0.out hb2)
                have BE := mkHid (below_step BE.out hb2)
                have BY := mkHid (BY.out.old hb2)
                have FA := mkHid (FA.out.below hb2)
                have FB := mkHid (FB.out.below hb2)
                have LA := mkHid (LA.out.below hb2)
                have LB := mkHid (LB.out.below hb2)
                have FJ := mkHid (FJ.out.below hb2)
                have LJ := mkHid (LJ.out.below hb2)
                have FM := mkHid (FM.out.below hb2)
                have LM := mkHid (LM.out.below hb2)
                have FW := mkHid (FW.out.below hb2)
                have LW := mkHid (LW.out.below hb2)
                have FX := mkHid (FX.out.below hb2)
                have LX := mkHid (LX.out.below hb2)
                have OV := mkHid (OV.out.below hb2)
                clear hb2
                obtain ⟨f0, f1⟩ := FM.out
                go_wp2_with fail
                clear f0 f1
                have h9 := iHas_any zm lm aM cM v (some ⟨gv, 0, none⟩) cv _ LM.out OV.out.at (by rw [VL.out]; unfold maxLen; omega)
                rw [xm, VL.out] at h9
                refine h9.mono ?_
                clear h9
                rintro e y5 ⟨rfl, hb2⟩
                have B0 := mkHid (below_step B0.out hb2)
                have BE := mkHid (below_step BE.out hb2)
                have BY := mkHid (BY.out.old hb2)
                have FA := mkHid (FA.out.below hb2)
                have FB := mkHid (FB.out.below hb2)
                have LA := mkHid (LA.out.below hb2)
                have LB := mkHid (LB.out.below hb2)
                have FJ := mkHid (FJ.out.below hb2)
                have LJ := mkHid (LJ.out.below hb2)
                have FM := mkHid (FM.out.below hb2)
                have LM := mkHid (LM.out.below hb2)
                have FW := mkHid (FW.out.below hb2)
                have LW := mkHid (LW.out.below hb2)
                have FX := mkHid (FX.out.below hb2)
                have LX := mkHid (LX.out.below hb2)
                have OV := mkHid (OV.out.below hb2)
                clear hb2
                obtain ⟨f0, f1⟩ := FA.out
                go_wp2_with fail
                refine (pick1_any n2 c2 _ u (q : Int) a2 _ HM2.out BY.out (by omega) (by omega) (by omega)).mono ?_
                rintro e y9 ⟨r, rfl, hr0, hri, rfl⟩
                obtain ⟨i, rfl⟩ : ∃ i : Nat, r = i := ⟨r.toNat, by omega⟩
                clear hr0
                have hp : IntKind.i64.wrap ((u : Int) + 3) = ((u + 3 : Nat) : Int) := by rw [IntWalk.i64_in _ ⟨by omega, by omega⟩]; omega
                go_wp2_with fail
                first | rw [show ((u : Int) + 3) = ((u + 3 : Nat) : Int) by omega] | skip
                refine (pick1_any n2 c2 _ (u + 3) (q : Int) a2 _ HM2.out BY.out (by omega) (by omega) (by omega)).mono ?_
                rintro e y9 ⟨r, rfl, hr0, hrj, rfl⟩
                obtain ⟨j, rfl⟩ : ∃ i : Nat, r = i := ⟨r.toNat, by omega⟩
                clear hr0 hp f0 f1
                have hi : i < q := by omega
                have hj : j < q := by omega
                obtain ⟨x, hx⟩ : ∃ x, v.getD i 0 = x := ⟨_, rfl⟩
                obtain ⟨hx0, hx1⟩ : -6 ≤ x ∧ x ≤ 17 := by rw [← hx]; exact VG.out.get (by rw [VL.out]; exact hi)
                obtain ⟨y, hy⟩ : ∃ y, v.getD j 0 = y := ⟨_, rfl⟩
                obtain ⟨hy0, hy1⟩ : -6 ≤ y ∧ y ≤ 17 := by rw [← hy]; exact VG.out.get (by rw [VL.out]; exact hj)
                have d0 := OV.out.cell (p := i) (by rw [VL.out]; exact hi)
                have d1 := OV.out.cell (p := j) (by rw [VL.out]; exact hj)
                rw [hx] at d0
                rw [hy] at d1
                have HXE := mkHid hx
                have HYE := mkHid hy
                clear hx hy
                have hp : IntKind.i64.wrap ((u : Int) + 6) = ((u + 6 : Nat) : Int) := by rw [IntWalk.i64_in _ ⟨by omega, by omega⟩]; omega
                obtain ⟨u6, hu6⟩ : ∃ k, u + 6 = k := ⟨_, rfl⟩
                rw [hu6] at hp
                have hu6b : u6 ≤ 100 := by omega
                clear hu6
                have hxy : IntKind.i64.wrap (x - y) = x - y := IntWalk.i64_in _ ⟨by omega, by omega⟩
                go_wp2_with fail
                go_region_held3 (fun v' => v'.cell? ⟨gv, i, none⟩ = some (.int .i64 x) ∧ v'.cell? ⟨gv, j, none⟩ = some (.int .i64 y))
                  (first | exact ⟨d0, d1⟩ | assumption)
                  (first | (go_at_call 22; refine (pick1_any n2 c2 _ u6 3 a2 _ HM2.out (BY.out.old (Below.refl _ _).drew) (by omega) (by omega) (by omega)).mono ?_; rintro e y9 ⟨r, rfl, r0, r1', rfl⟩; have hwr : IntKind.i64.wrap (x - y + r) = x - y + r := IntWalk.i64_in _ ⟨by omega, by omega⟩))
                all_goals
                  have hb2 := (Below.refl y5.heap.size y5).drew
                  have B0 := mkHid (below_step B0.out hb2)
                  have BE := mkHid (below_step BE.out hb2)
                  have BY := mkHid (BY.out.old hb2)
                  have FA := mkHid (FA.out.below hb2)
                  have FB := mkHid (FB.out.below hb2)
                  have LA := mkHid (LA.out.below hb2)
                  have LB := mkHid (LB.out.below hb2)
                  have FJ := mkHid (FJ.out.below hb2)
                  have LJ := mkHid (LJ.out.below hb2)
                  have FM := mkHid (FM.out.below hb2)
                  have LM := mkHid (LM.out.below hb2)
                  have FW := mkHid (FW.out.below hb2)
                  have LW := mkHid (LW.out.below hb2)
                  have FX := mkHid (FX.out.below hb2)
                  have LX := mkHid (LX.out.below hb2)
                  have OV := mkHid (OV.out.below hb2)
                  clear hb2 hp d0 d1 hxy
                  clear hwr
                  go_wp2
                  go_roundg g
                  case measure => omega
                  case rel => exact ⟨u + 1, by omega, by go_num, B0.out⟩
          · cases hIB : hasF q l' v
            · as_aux_lemma =>
                have xx := XX.out
                have xm := XM.out
                rw [hIA] at xx xm
                rw [hIB] at xm
                have xm : hasF zm lm v = false := xm
                have xj := XJ.out (.inl hIA)
                clear XX XM XJ
                obtain ⟨f0, f1⟩ := FX.out
                go_wp2_with fail
                clear f0 f1
                have h9 := iHas_any zx lx aX cX v (some ⟨gv, 0, none⟩) cv _ LX.out OV.out.at (by rw [VL.out]; unfold maxLen; omega)
                rw [xx, VL.out] at h9
                refine h9.mono ?_
                clear h9
                rintro e y3 ⟨rfl, hb2⟩
                have B0 := mkHid (below_step B0.out hb2)
                have BE := mkHid (below_step BE.out hb2)
                have BY := mkHid (BY.out.old hb2)
                have FA := mkHid (FA.out.below hb2)
                have FB := mkHid (FB.out.below hb2)
                have LA := mkHid (LA.out.below hb2)
                have LB := mkHid (LB.out.below hb2)
                have FJ := mkHid (FJ.out.below hb2)
                have LJ := mkHid (LJ.out.below hb2)
                have FM := mkHid (FM.out.below hb2)
                have LM := mkHid (LM.out.below hb2)
                have FW := mkHid (FW.out.below hb2)
                have LW := mkHid (LW.out.below hb2)
                have FX := mkHid (FX.out.below hb2)
                have LX := mkHid (LX.out.below hb2)
                have OV := mkHid (OV.out.below hb2)
                clear hb2
                obtain ⟨f0, f1⟩ := FJ.out
                go_wp2_with fail
                clear f0 f1
                have h9 := iHas_any zj lj aJ cJ v (some ⟨gv, 0, none⟩) cv _ LJ.out OV.out.at (by rw [VL.out]; unfold maxLen; omega)
                rw [xj, VL.out] at h9
                refine h9.mono ?_
                clear h9
                rintro e y4 ⟨rfl, hb2⟩
                have B0 := mkHid (below_step B0.out hb2)
                have BE := mkHid (below_step BE.out hb2)
                have BY := mkHid (BY.out.old hb2)
                have FA := mkHid (FA.out.below hb2)
                have FB := mkHid (FB.out.below hb2)
                have LA := mkHid (LA.out.below hb2)
                have LB := mkHid (LB.out.below hb2)
                have FJ := mkHid (FJ.out.below hb2)
                have LJ := mkHid (LJ.out.below hb2)
                have FM := mkHid (FM.out.below hb2)
                have LM := mkHid (LM.out.below hb2)
                have FW := mkHid (FW.out.below hb2)
                have LW := mkHid (LW.out.below hb2)
                have FX := mkHid (FX.out.below hb2)
                have LX := mkHid (LX.out.below hb2)
                have OV := mkHid (OV.out.below hb2)
                clear hb2
                obtain ⟨f0, f1⟩ := FM.out
                go_wp2_with fail
                clear f0 f1
                have h9 := iHas_any zm lm aM cM v (some ⟨gv, 0, none⟩) cv _ LM.out OV.out.at (by rw [VL.out]; unfold maxLen; omega)
                rw [xm, VL.out] at h9
                refine h9.mono ?_
                clear h9
                rintro e y5 ⟨rfl, hb2⟩
                have B0 := mkHid (below_step B0.out hb2)
                have BE := mkHid (below_step BE.out hb2)
                have BY := mkHid (BY.out.old hb2)
                have FA := mkHid (FA.out.below hb2)
                have FB := mkHid (FB.out.below hb2)
                have LA := mkHid (LA.out.below hb2)
                have LB := mkHid (LB.out.below hb2)
                have FJ := mkHid (FJ.out.below hb2)
                have LJ := mkHid (LJ.out.below hb2)
                have FM := mkHid (FM.out.below hb2)
                have LM := mkHid (LM.out.below hb2)
                have FW := mkHid (FW.out.below hb2)
                have LW := mkHid (LW.out.below hb2)
                have FX := mkHid (FX.out.below hb2)
                have LX := mkHid (LX.out.below hb2)
                have OV := mkHid (OV.out.below hb2)
                clear hb2
                obtain ⟨f0, f1⟩ := FA.out
                go_wp2_with fail
                refine (pick1_any n2 c2 _ u (q : Int) a2 _ HM2.out BY.out (by omega) (by omega) (by omega)).mono ?_
                rintro e y9 ⟨r, rfl, hr0, hri, rfl⟩
                obtain ⟨i, rfl⟩ : ∃ i : Nat, r = i := ⟨r.toNat, by omega⟩
                clear hr0
                have hp : IntKind.i64.wrap ((u : Int) + 3) = ((u + 3 : Nat) : Int) := by rw [IntWalk.i64_in _ ⟨by omega, by omega⟩]; omega
                go_wp2_with fail
                first | rw [show ((u : Int) + 3) = ((u + 3 : Nat) : Int) by omega] | skip
                refine (pick1_any n2 c2 _ (u + 3) (q : Int) a2 _ HM2.out BY.out (by omega) (by omega) (by omega)).mono ?_
                rintro e y9 ⟨r, rfl, hr0, hrj, rfl⟩
                obtain ⟨j, rfl⟩ : ∃ i : Nat, r = i := ⟨r.toNat, by omega⟩
                clear hr0 hp f0 f1
                have hi : i < q := by omega
                have hj : j < q := by omega
                obtain ⟨x, hx⟩ : ∃ x, v.getD i 0 = x := ⟨_, rfl⟩
                obtain ⟨hx0, hx1⟩ : -6 ≤ x ∧ x ≤ 17 := by rw [← hx]; exact VG.out.get (by rw [VL.out]; exact hi)
                obtain ⟨y, hy⟩ : ∃ y, v.getD j 0 = y := ⟨_, rfl⟩
                obtain ⟨hy0, hy1⟩ : -6 ≤ y ∧ y ≤ 17 := by rw [← hy]; exact VG.out.get (by rw [VL.out]; exact hj)
                have d0 := OV.out.cell (p := i) (by rw [VL.out]; exact hi)
                have d1 := OV.out.cell (p := j) (by rw [VL.out]; exact hj)
                rw [hx] at d0
                rw [hy] at d1
                have HXE := mkHid hx
                have HYE := mkHid hy
                clear hx hy
                have hp : IntKind.i64.wrap ((u : Int) + 6) = ((u + 6 : Nat) : Int) := by rw [IntWalk.i64_in _ ⟨by omega, by omega⟩]; omega
                obtain ⟨u6, hu6⟩ : ∃ k, u + 6 = k := ⟨_, rfl⟩
                rw [hu6] at hp
                have hu6b : u6 ≤ 100 := by omega
                clear hu6
                have hxy : IntKind.i64.wrap (x - y) = x - y := IntWalk.i64_in _ ⟨by omega, by omega⟩
                go_wp2_with fail
                go_region_held3 (fun v' => v'.cell? ⟨gv, i, none⟩ = some (.int .i64 x) ∧ v'.cell? ⟨gv, j, none⟩ = some (.int .i64 y))
                  (first | exact ⟨d0, d1⟩ | assumption)
                  (first | (go_at_call 22; refine (pick1_any n2 c2 _ u6 3 a2 _ HM2.out (BY.out.old (Below.refl _ _).drew) (by omega) (by omega) (by omega)).mono ?_; rintro e y9 ⟨r, rfl, r0, r1', rfl⟩; have hwr : IntKind.i64.wrap (x - y + r) = x - y + r := IntWalk.i64_in _ ⟨by omega, by omega⟩))
                all_goals
                  have hb2 := (Below.refl y5.heap.size y5).drew
                  have B0 := mkHid (below_step B0.out hb2)
                  have BE := mkHid (below_step BE.out hb2)
                  have BY := mkHid (BY.out.old hb2)
                  have FA := mkHid (FA.out.below hb2)
                  have FB := mkHid (FB.out.below hb2)
                  have LA := mkHid (LA.out.below hb2)
                  have LB := mkHid (LB.out.below hb2)
                  have FJ := mkHid (FJ.out.below hb2)
                  have LJ := mkHid (LJ.out.below hb2)
                  have FM := mkHid (FM.out.below hb2)
                  have LM := mkHid (LM.out.below hb2)
                  have FW := mkHid (FW.out.below hb2)
                  have LW := mkHid (LW.out.below hb2)
                  have FX := mkHid (FX.out.below hb2)
                  have LX := mkHid (LX.out.below hb2)
                  have OV := mkHid (OV.out.below hb2)
                  clear hb2 hp d0 d1 hxy
                  obtain ⟨c, hc⟩ : ∃ c, x - y + r = c := ⟨_, rfl⟩
                  rw [hc]
                  have AD := HAD.out i j c hi hj (by rw [HXE.out, HYE.out]; omega) (by omega) hIA
                  obtain ⟨za, hza⟩ : ∃ s, outZ (addF q l i j c) q = s := ⟨_, rfl⟩
                  obtain ⟨la, hla⟩ : ∃ s, outL (addF q l i j c) q = s := ⟨_, rfl⟩
                  have HC9 : Hid (∀ v', IntsAt v' ao l → Calls Try.prog 23 #[.agg #[.int .i64 q, .slice ao l.length cp], .int .i64 i, .int .i64 j, .int .i64 c] v' fun e w' => Gives v' w' e za la) := mkHid fun v' h => by have := iAdd_any q l ao cp i j c v' HZ.out.2.2 h; rw [Int.toNat_natCast, hza, hla] at this; exact this
                  rw [hza, hla] at AD
                  clear hza hla hc hwr HAD
                  obtain ⟨f0, f1⟩ := FA.out
                  go_wp2_with fail
                  clear f0 f1
                  refine (HC9.out _ LA.out).mono ?_
                  rintro e y7 ⟨ab, cb, rfl, hO, hb2⟩
                  have LQ := mkHid hO.at
                  have B0 := mkHid (below_step B0.out hb2)
                  have BE := mkHid (below_step BE.out hb2)
                  have BY := mkHid (BY.out.old hb2)
                  have FA := mkHid (FA.out.below hb2)
                  have FB := mkHid (FB.out.below hb2)
                  have LA := mkHid (LA.out.below hb2)
                  have LB := mkHid (LB.out.below hb2)
                  have FJ := mkHid (FJ.out.below hb2)
                  have LJ := mkHid (LJ.out.below hb2)
                  have FM := mkHid (FM.out.below hb2)
                  have LM := mkHid (LM.out.below hb2)
                  have FW := mkHid (FW.out.below hb2)
                  have LW := mkHid (LW.out.below hb2)
                  have FX := mkHid (FX.out.below hb2)
                  have LX := mkHid (LX.out.below hb2)
                  have OV := mkHid (OV.out.below hb2)
                  clear hO hb2 HC9
                  go_wp2_with fail
                  have h9 := iHas_any za la ab cb v (some ⟨gv, 0, none⟩) cv _ LQ.out OV.out.at (by rw [VL.out]; unfold maxLen; omega)
                  rw [AD, VL.out] at h9
                  refine h9.mono ?_
                  clear h9
                  rintro e y8 ⟨rfl, hb2⟩
                  have B0 := mkHid (below_step B0.out hb2)
                  clear hb2
                  go_wp2
                  go_roundg g
                  case measure => omega
                  case rel => exact ⟨u + 1, by omega, by go_num, B0.out⟩
            · as_aux_lemma =>
                have xx := XX.out
                have xm := XM.out
                rw [hIA] at xx xm
                rw [hIB] at xm
                have xm : hasF zm lm v = true := xm
                have xj := XJ.out (.inl hIA)
                clear XX XM XJ
                obtain ⟨f0, f1⟩ := FX.out
                go_wp2_with fail
                clear f0 f1
                have h9 := iHas_any zx lx aX cX v (some ⟨gv, 0, none⟩) cv _ LX.out OV.out.at (by rw [VL.out]; unfold maxLen; omega)
                rw [xx, VL.out] at h9
                refine h9.mono ?_
                clear h9
                rintro e y3 ⟨rfl, hb2⟩
                have B0 := mkHid (below_step B0.out hb2)
                have BE := mkHid (below_step BE.out hb2)
                have BY := mkHid (BY.out.old hb2)
                have FA := mkHid (FA.out.below hb2)
                have FB := mkHid (FB.out.below hb2)
                have LA := mkHid (LA.out.below hb2)
                have LB := mkHid (LB.out.below hb2)
                have FJ := mkHid (FJ.out.below hb2)
                have LJ := mkHid (LJ.out.below hb2)
                have FM := mkHid (FM.out.below hb2)
                have LM := mkHid (LM.out.below hb2)
                have FW := mkHid (FW.out.below hb2)
                have LW := mkHid (LW.out.below hb2)
                have FX := mkHid (FX.out.below hb2)
                have LX := mkHid (LX.out.below hb2)
                have OV := mkHid (OV.out.below hb2)
                clear hb2
                obtain ⟨f0, f1⟩ := FJ.out
                go_wp2_with fail
                clear f0 f1
                have h9 := iHas_any zj lj aJ cJ v (some ⟨gv, 0, none⟩) cv _ LJ.out OV.out.at (by rw [VL.out]; unfold maxLen; omega)
                rw [xj, VL.out] at h9
                refine h9.mono ?_
                clear h9
                rintro e y4 ⟨rfl, hb2⟩
                have B0 := mkHid (below_step B0.out hb2)
                have BE := mkHid (below_step BE.out hb2)
                have BY := mkHid (BY.out.old hb2)
                have FA := mkHid (FA.out.below hb2)
                have FB := mkHid (FB.out.below hb2)
                have LA := mkHid (LA.out.below hb2)
                have LB := mkHid (LB.out.below hb2)
                have FJ := mkHid (FJ.out.below hb2)
                have LJ := mkHid (LJ.out.below hb2)
                have FM := mkHid (FM.out.below hb2)
                have LM := mkHid (LM.out.below hb2)
                have FW := mkHid (FW.out.below hb2)
                have LW := mkHid (LW.out.below hb2)
                have FX := mkHid (FX.out.below hb2)
                have LX := mkHid (LX.out.below hb2)
                have OV := mkHid (OV.out.below hb2)
                clear hb2
                obtain ⟨f0, f1⟩ := FM.out
                go_wp2_with fail
                clear f0 f1
                have h9 := iHas_any zm lm aM cM v (some ⟨gv, 0, none⟩) cv _ LM.out OV.out.at (by rw [VL.out]; unfold maxLen; omega)
                rw [xm, VL.out] at h9
                refine h9.mono ?_
                clear h9
                rintro e y5 ⟨rfl, hb2⟩
                have B0 := mkHid (below_step B0.out hb2)
                have BE := mkHid (below_step BE.out hb2)
                have BY := mkHid (BY.out.old hb2)
                have FA := mkHid (FA.out.below hb2)
                have FB := mkHid (FB.out.below hb2)
                have LA := mkHid (LA.out.below hb2)
                have LB := mkHid (LB.out.below hb2)
                have FJ := mkHid (FJ.out.below hb2)
                have LJ := mkHid (LJ.out.below hb2)
                have FM := mkHid (FM.out.below hb2)
                have LM := mkHid (LM.out.below hb2)
                have FW := mkHid (FW.out.below hb2)
                have LW := mkHid (LW.out.below hb2)
                have FX := mkHid (FX.out.below hb2)
                have LX := mkHid (LX.out.below hb2)
                have OV := mkHid (OV.out.below hb2)
                clear hb2
                obtain ⟨f0, f1⟩ := FA.out
                go_wp2_with fail
                refine (pick1_any n2 c2 _ u (q : Int) a2 _ HM2.out BY.out (by omega) (by omega) (by omega)).mono ?_
                rintro e y9 ⟨r, rfl, hr0, hri, rfl⟩
                obtain ⟨i, rfl⟩ : ∃ i : Nat, r = i := ⟨r.toNat, by omega⟩
                clear hr0
                have hp : IntKind.i64.wrap ((u : Int) + 3) = ((u + 3 : Nat) : Int) := by rw [IntWalk.i64_in _ ⟨by omega, by omega⟩]; omega
                go_wp2_with fail
                first | rw [show ((u : Int) + 3) = ((u + 3 : Nat) : Int) by omega] | skip
                refine (pick1_any n2 c2 _ (u + 3) (q : Int) a2 _ HM2.out BY.out (by omega) (by omega) (by omega)).mono ?_
                rintro e y9 ⟨r, rfl, hr0, hrj, rfl⟩
                obtain ⟨j, rfl⟩ : ∃ i : Nat, r = i := ⟨r.toNat, by omega⟩
                clear hr0 hp f0 f1
                have hi : i < q := by omega
                have hj : j < q := by omega
                obtain ⟨x, hx⟩ : ∃ x, v.getD i 0 = x := ⟨_, rfl⟩
                obtain ⟨hx0, hx1⟩ : -6 ≤ x ∧ x ≤ 17 := by rw [← hx]; exact VG.out.get (by rw [VL.out]; exact hi)
                obtain ⟨y, hy⟩ : ∃ y, v.getD j 0 = y := ⟨_, rfl⟩
                obtain ⟨hy0, hy1⟩ : -6 ≤ y ∧ y ≤ 17 := by rw [← hy]; exact VG.out.get (by rw [VL.out]; exact hj)
                have d0 := OV.out.cell (p := i) (by rw [VL.out]; exact hi)
                have d1 := OV.out.cell (p := j) (by rw [VL.out]; exact hj)
                rw [hx] at d0
                rw [hy] at d1
                have HXE := mkHid hx
                have HYE := mkHid hy
                clear hx hy
                have hp : IntKind.i64.wrap ((u : Int) + 6) = ((u + 6 : Nat) : Int) := by rw [IntWalk.i64_in _ ⟨by omega, by omega⟩]; omega
                obtain ⟨u6, hu6⟩ : ∃ k, u + 6 = k := ⟨_, rfl⟩
                rw [hu6] at hp
                have hu6b : u6 ≤ 100 := by omega
                clear hu6
                have hxy : IntKind.i64.wrap (x - y) = x - y := IntWalk.i64_in _ ⟨by omega, by omega⟩
                go_wp2_with fail
                go_region_held3 (fun v' => v'.cell? ⟨gv, i, none⟩ = some (.int .i64 x) ∧ v'.cell? ⟨gv, j, none⟩ = some (.int .i64 y))
                  (first | exact ⟨d0, d1⟩ | assumption)
                  (first | (go_at_call 22; refine (pick1_any n2 c2 _ u6 3 a2 _ HM2.out (BY.out.old (Below.refl _ _).drew) (by omega) (by omega) (by omega)).mono ?_; rintro e y9 ⟨r, rfl, r0, r1', rfl⟩; have hwr : IntKind.i64.wrap (x - y + r) = x - y + r := IntWalk.i64_in _ ⟨by omega, by omega⟩))
                all_goals
                  have hb2 := (Below.refl y5.heap.size y5).drew
                  have B0 := mkHid (below_step B0.out hb2)
                  have BE := mkHid (below_step BE.out hb2)
                  have BY := mkHid (BY.out.old hb2)
                  have FA := mkHid (FA.out.below hb2)
                  have FB := mkHid (FB.out.below hb2)
                  have LA := mkHid (LA.out.below hb2)
                  have LB := mkHid (LB.out.below hb2)
                  have FJ := mkHid (FJ.out.below hb2)
                  have LJ := mkHid (LJ.out.below hb2)
                  have FM := mkHid (FM.out.below hb2)
                  have LM := mkHid (LM.out.below hb2)
                  have FW := mkHid (FW.out.below hb2)
                  have LW := mkHid (LW.out.below hb2)
                  have FX := mkHid (FX.out.below hb2)
                  have LX := mkHid (LX.out.below hb2)
                  have OV := mkHid (OV.out.below hb2)
                  clear hb2 hp d0 d1 hxy
                  obtain ⟨c, hc⟩ : ∃ c, x - y + r = c := ⟨_, rfl⟩
                  rw [hc]
                  have AD := HAD.out i j c hi hj (by rw [HXE.out, HYE.out]; omega) (by omega) hIA
                  obtain ⟨za, hza⟩ : ∃ s, outZ (addF q l i j c) q = s := ⟨_, rfl⟩
                  obtain ⟨la, hla⟩ : ∃ s, outL (addF q l i j c) q = s := ⟨_, rfl⟩
                  have HC9 : Hid (∀ v', IntsAt v' ao l → Calls Try.prog 23 #[.agg #[.int .i64 q, .slice ao l.length cp], .int .i64 i, .int .i64 j, .int .i64 c] v' fun e w' => Gives v' w' e za la) := mkHid fun v' h => by have := iAdd_any q l ao cp i j c v' HZ.out.2.2 h; rw [Int.toNat_natCast, hza, hla] at this; exact this
                  rw [hza, hla] at AD
                  clear hza hla hc hwr HAD
                  obtain ⟨f0, f1⟩ := FA.out
                  go_wp2_with fail
                  clear f0 f1
                  refine (HC9.out _ LA.out).mono ?_
                  rintro e y7 ⟨ab, cb, rfl, hO, hb2⟩
                  have LQ := mkHid hO.at
                  have B0 := mkHid (below_step B0.out hb2)
                  have BE := mkHid (below_step BE.out hb2)
                  have BY := mkHid (BY.out.old hb2)
                  have FA := mkHid (FA.out.below hb2)
                  have FB := mkHid (FB.out.below hb2)
                  have LA := mkHid (LA.out.below hb2)
                  have LB := mkHid (LB.out.below hb2)
                  have FJ := mkHid (FJ.out.below hb2)
                  have LJ := mkHid (LJ.out.below hb2)
                  have FM := mkHid (FM.out.below hb2)
                  have LM := mkHid (LM.out.below hb2)
                  have FW := mkHid (FW.out.below hb2)
                  have LW := mkHid (LW.out.below hb2)
                  have FX := mkHid (FX.out.below hb2)
                  have LX := mkHid (LX.out.below hb2)
                  have OV := mkHid (OV.out.below hb2)
                  clear hO hb2 HC9
                  go_wp2_with fail
                  have h9 := iHas_any za la ab cb v (some ⟨gv, 0, none⟩) cv _ LQ.out OV.out.at (by rw [VL.out]; unfold maxLen; omega)
                  rw [AD, VL.out] at h9
                  refine h9.mono ?_
                  clear h9
                  rintro e y8 ⟨rfl, hb2⟩
                  have B0 := mkHid (below_step B0.out hb2)
                  clear hb2
                  go_wp2
                  go_roundg g
                  case measure => omega
                  case rel => exact ⟨u + 1, by omega, by go_num, B0.out⟩
theorem open_bytes {H : Type} {enc : TypeId × Value → H} {W : World} {a : Option Addr} {len cap : Nat} {x : DataW H} {p : List MemPlace} (h : DataW.Trod enc Try.prog W 0 (fun _ => true) true 22 (.slice a len cap) x p) : Bytes W W.heap.size a len ∧ len ≤ maxLen := by
  obtain ⟨fuel, hf⟩ := h
  rcases open_ints Try.underlying22 Try.underlying5 (by kernel_rfl) hf with ⟨hcs, _⟩ | ⟨ad, l, c, zs, hcs, _, hl, hm, hz, _, hcell, hwz⟩
  · simp [Value.cells] at hcs
    exact ⟨.inl hcs.2.1, by rw [hcs.2.1]; exact Nat.zero_le _⟩
  · simp [Value.cells] at hcs
    obtain ⟨rfl, rfl, rfl⟩ := hcs
    refine ⟨?_, by omega⟩
    by_cases h0 : len = 0
    · exact .inl h0
    · have hzl : zs.length = cap := by simpa using hz
      obtain ⟨b, off, rfl, hc⟩ := ints_at hcell (by omega)
      refine .inr ⟨b, off, rfl, World.block_lt_of_cell? W _ (hc 0 (by omega)), fun i hi => ?_⟩
      have hmem : zs.getD i 0 ∈ zs := by
        rw [List.getD_eq_getElem?_getD, List.getElem?_eq_getElem (by omega)]
        exact List.getElem_mem _
      have hw := bounds_u8 (hwz _ hmem)
      exact ⟨_, hw.1, hw.2, hc i (by omega)⟩

set_option maxRecDepth 100000 in
theorem law_lifted (os : Os) (started : os.Started) (H : Type) (enc : TypeId × Value → H) :
    ReturnsInHanded {} Try.checked os 3 .any (Rows.fnFactsHoldSpec.pre6 enc Try.prog Try.f3 Rows.fnFactsHoldRow.domain false) (Rows.fnFactsHoldSpec.post enc Try.prog Try.f3 false true false false) := by
  refine returnsInHanded_of_change (C := Try.checked) Try.own started (by kernel_rfl) Try.func3
    (ChangeSpec.witness6 (enc := enc) (C := Try.checked) false ⟨#[], #[.slice none 0 0, .slice none 0 0], []⟩ 8 (by kernel_rfl) (by kernel_rfl) (by kernel_rfl) (by kernel_rfl)) ?_
  intro W base args ds gs before hval0 hW hcnd _
  have hval : ∀ (j : Nat) t v, Try.f3.params[j]? = some t → args[j]? = some v → Value.okWide Try.prog W .any base t v := hval0
  have hW' := hW
  obtain ⟨p, q, hA0, hV, rfl, hfz, hnd⟩ := hW
  have hA : DataW.TrodAll enc Try.prog W 0 (fun _ => true) true Try.f3.params.toList args.toList ds p := hA0
  rw [Try.params3] at hA hval
  obtain ⟨v0, vs0, d0, ds0, p0, q0, hargs, rfl, rfl, h0, r0⟩ := trodAll_cons hA
  obtain ⟨v1, vs1, d1, ds1, p1, q1, rfl, rfl, rfl, h1, r1⟩ := trodAll_cons r0
  obtain ⟨rfl, rfl, rfl⟩ := trodAll_nil r1
  obtain rfl : args = #[v0, v1] := by cases args; simp_all
  obtain ⟨rfl, rfl⟩ := trodVars_none hV
  obtain ⟨a0, len0, cap0, rfl⟩ := okWide_slice Try.underlying22 (hval 0 22 v0 rfl rfl)
  obtain ⟨a1, len1, cap1, rfl⟩ := okWide_slice Try.underlying22 (hval 1 22 v1 rfl rfl)
  have lt0 : ∀ x ∈ p0, x.block < W.heap.size := by obtain ⟨m, hm⟩ := h0; exact DataW.trod_lt m _ _ _ hm
  have lt1 : ∀ x ∈ p1, x.block < W.heap.size := by obtain ⟨m, hm⟩ := h1; exact DataW.trod_lt m _ _ _ hm
  clear hA0 hval0
  refine (law_walk a0 a1 len0 cap0 len1 cap1 W (open_bytes h0).2 (open_bytes h1).2 (open_bytes h0).1 (open_bytes h1).1).mono fun e W' ⟨he, bel⟩ => ?_
  subst he
  exact ⟨_, rfl, _, _, _, [], _, [], hW', trodAll_mk1 (shut_bool Try.underlying4 _), (trodAll_cons_mk (Below.trod Try.laidOut (by kernel_rfl) (of_decide_eq_true (by kernel_rfl)) h0 bel lt0) (trodAll_cons_mk (Below.trod Try.laidOut (by kernel_rfl) (of_decide_eq_true (by kernel_rfl)) h1 bel lt1) trodAll_mk0)), rfl, bel.frame _, fun h => by cases h⟩

theorem law_holds : Rows.FnFactsHoldSaid :=
  OpenClaim.holds_of_wide 3 Try.f3 rfl rfl rfl rfl rfl rfl rfl ⟨rfl, rfl, rfl, rfl, rfl⟩ rfl rfl rfl rfl rfl (by kernel_rfl) Try.func3 (by kernel_rfl)
    (of_decide_eq_true (by kernel_rfl)) (by unfold Func.isWrapper; first | (rw [if_pos (by decide +kernel)]; kernel_rfl) | (rw [if_neg (by decide +kernel)]; exact ⟨rfl, rfl⟩))
    (fun os started H enc _ => law_lifted os started H enc)

#print axioms law_holds
end Go.Proofs.Ytgclngofigffdaa
