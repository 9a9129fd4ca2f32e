/-
  CONTRACTS of goTogether, isNoFacts, l07Good, l07Pair: which two Facts go together.
  PURE: facts that are so of numbers are so when closed; what SymMost tells is never less than what is.
  CONTRACT of the program's freed.
  CONTRACT of the program's FactsForget.
  CONTRACT of the program's FactsCopy.
  CONTRACT of the program's FactsShift.
  CONTRACTS of both FactsRanges.
  CONTRACTS of the cursor that draws numbers from bytes: pick, once, size, l01Open: they answer some number within bounds, and write the cursor's own block alone.
  CONTRACTS of the program's functions on ranges: RangeOk, RangeHas, spanOf, cutDown, RangeMeet, RangeNeg, RangeAdd.
  CONTRACTS of the specification's RangeAdd, RangeSub, RangeMul, RangeMeet, RangeJoin.
  GUARDS: models (plain); CONTRACTS of l02IsCond, l06Without of the specification, guardLess, withoutOnly of the program.
-/
import Derived.Test.YtgclngofigffdaaFo07
import Derived.Test.YtgclngofigffdaaFo06
import Derived.Test.YtgclngofigffdaaFo00
import Derived.Deep.AppendLies
import Derived.ProofKit
import Derived.OpenShut
import Derived.ChangeOld
import Derived.Lib.SmallJoins
import Derived.Deep.QuietTactic
import Derived.BigQuiet
import Derived.Test.YtgclngofigffdaaFo02
namespace Go.Proofs.Ytgclngofigffdaa
open Go.RowKit

theorem noN_eq (z : Int) (l : List Int) : noN z l.length = noF z l := by unfold noN noF; rw [decide_eq_decide]; simp [List.length_eq_zero_iff]
/-- Two Facts go together. -/
def goB (z : Int) (l : List Int) (z' : Int) (l' : List Int) : Bool := if noF z l then noF z' l' || okF z' l' else if noF z' l' then okF z l else okF z l && (okF z' l' && decide (z = z'))
theorem goB_pair (z : Int) (l : List Int) (z' : Int) (l' : List Int) : ((noF z l || okF z l) && ((noF z' l' || okF z' l') && (noF z l || (noF z' l' || decide (z = z'))))) = goB z l z' l' := by
  unfold goB
  cases noF z l <;> cases noF z' l' <;> cases okF z l <;> cases okF z' l' <;> simp
/-- The closed table, or none. -/
def cF (z : Int) (l : List Int) : Option Tab := (okO z l).bind (cloO z.toNat)
theorem cF_fine (z : Int) (l : List Int) : FineO z.toNat (cF z l) := clo_fineO (okO_fine z l)
theorem cF_ok {z : Int} {l : List Int} {f : Tab} (h : cF z l = some f) : okF z l = true := by
  unfold cF at h
  cases hk : okF z l
  · rw [okO_no hk] at h; cases h
  · rfl
theorem cF_closed {z : Int} {l : List Int} {f : Tab} (h : cF z l = some f) : Closed z.toNat f := by
  have hok := cF_ok h
  unfold cF at h
  rw [okO_yes hok] at h
  simp only [Option.bind_some, cloO] at h
  split at h
  · rename_i hc
    cases h
    obtain ⟨n, rfl, _, _, _, _, hf⟩ := ok_of hok
    rw [Int.toNat_natCast] at hc ⊢
    exact clo_closed hf.diag hc
  · cases h
/-- Both have a table: the sizes are the same. -/
theorem go_same {z z' : Int} {l l' : List Int} {f g : Tab} (h : goB z l z' l' = true) (h1 : cF z l = some f) (h2 : cF z' l' = some g) : z = z' ∧ ∃ n : Nat, z = n ∧ 1 ≤ n ∧ n ≤ 13 := by
  have k1 := cF_ok h1
  have k2 := cF_ok h2
  unfold goB at h
  rw [ok_no k1, ok_no k2, k1, k2] at h
  have e : z = z' := by simpa using h
  obtain ⟨n, q0, q1, q2, _⟩ := ok_of k1
  exact ⟨e, n, q0, q1, q2⟩
set_option maxHeartbeats 800000 in
theorem iNoF_any (z : Int) (a : Option Addr) (n c : Nat) (w : World) : Calls Try.prog 74 #[.agg #[.int .i64 z, .slice a n c]] w fun e w' => e = .returned (.bool (noN z n)) ∧ Below w.heap.size w w' := by
  by_cases h1 : z = 0
  · have hb1 : (z == 0) = true := by rw [beq_iff_eq]; exact h1
    by_cases h2 : n = 0
    · have hb2 : ((n : Int) == 0) = true := by rw [beq_iff_eq]; omega
      have e := mkHid (show noN z n = true from decide_eq_true ⟨h1, h2⟩)
      clear h1 h2
      go_enter Try.func74, Try.ntmps74
      go_wp2
      go_ret
      exact ⟨ret_bool e.out.symm, (Below.refl _ _).alloc (Nat.le_refl _) _⟩
    · have hb2 : ((n : Int) == 0) = false := by rw [beq_eq_false_iff_ne]; omega
      have e := mkHid (show noN z n = false from decide_eq_false fun h => h2 h.2)
      clear h1 h2
      go_enter Try.func74, Try.ntmps74
      go_wp2
      go_ret
      exact ⟨ret_bool e.out.symm, (Below.refl _ _).alloc (Nat.le_refl _) _⟩
  · have hb1 : (z == 0) = false := by rw [beq_eq_false_iff_ne]; exact h1
    have e := mkHid (show noN z n = false from decide_eq_false fun h => h1 h.1)
    clear h1
    go_enter Try.func74, Try.ntmps74
    go_wp2
    go_ret
    exact ⟨ret_bool e.out.symm, (Below.refl _ _).alloc (Nat.le_refl _) _⟩
set_option maxHeartbeats 800000 in
theorem sGood_any (z : Int) (l : List Int) (a : Option Addr) (c : Nat) (w : World) (hl : IntsAt w a l) : Calls Try.prog 75 #[.agg #[.int .i64 z, .slice a l.length c]] w fun e w' => e = .returned (.bool (noF z l || okF z l)) ∧ Below w.heap.size w w' := by
  have HL := mkHid hl
  have B0 := mkHid ((Below.refl w.heap.size w).alloc (Nat.le_refl _) (.cells #[.int .i64 z, .slice a l.length c] 26))
  have T0 := mkHid (Fc.new w z a l.length c 26)
  have HN : Hid (∀ v, Calls Try.prog 51 #[.agg #[.int .i64 z, .slice a l.length c]] v fun e w' => e = .returned (.bool (noF z l)) ∧ Below v.heap.size v w') := mkHid fun v => by rw [← noN_eq]; exact sNoF_any z a l.length c v
  obtain ⟨n1, hn1⟩ : ∃ g, noF z l = g := ⟨_, rfl⟩
  rw [hn1] at HN
  rw [hn1]
  clear hl hn1
  go_enter Try.func75, Try.ntmps75
  go_wp2_with fail
  refine (HN.out _).mono ?_
  rintro e w1 ⟨rfl, hb⟩
  have B1 := mkHid (below_step B0.out hb)
  have T1 := mkHid (T0.out.below hb)
  clear hb B0 T0
  cases n1
  · obtain ⟨t0, t1⟩ := T1.out
    go_wp2_with fail
    refine (sOkF_any z l a c _ (HL.out.below B1.out)).mono ?_
    rintro e w2 ⟨rfl, hb⟩
    have B2 := mkHid (below_step B1.out hb)
    clear hb t0 t1
    go_wp2
    go_ret
    exact ⟨rfl, B2.out⟩
  · go_wp2
    go_ret
    exact ⟨rfl, B1.out⟩
set_option maxRecDepth 100000 in
set_option maxHeartbeats 1600000 in
theorem sPair_any (z : Int) (l : List Int) (a : Option Addr) (c : Nat) (z' : Int) (l' : List Int) (a' : Option Addr) (c' : Nat) (w : World) (hl : IntsAt w a l) (hl' : IntsAt w a' l') : Calls Try.prog 50 #[.agg #[.int .i64 z, .slice a l.length c], .agg #[.int .i64 z', .slice a' l'.length c']] w fun e w' => e = .returned (.bool (goB z l z' l')) ∧ Below w.heap.size w w' := by
  have HL := mkHid hl
  have HL' := mkHid hl'
  have B0 := mkHid (((Below.refl w.heap.size w).alloc (Nat.le_refl _) (.cells #[.int .i64 z, .slice a l.length c] 26)).alloc (by simp) (.cells #[.int .i64 z', .slice a' l'.length c'] 26))
  have T0 := mkHid ((Fc.new w z a l.length c 26).alloc (.cells #[.int .i64 z', .slice a' l'.length c'] 26))
  have U0 : Hid (Fc ((w.alloc (.cells #[.int .i64 z, .slice a l.length c] 26)).alloc (.cells #[.int .i64 z', .slice a' l'.length c'] 26)) (w.heap.size + 1) z' a' l'.length c') := mkHid (by have := Fc.new (w.alloc (.cells #[.int .i64 z, .slice a l.length c] 26)) z' a' l'.length c' 26; simpa using this)
  have HG : Hid (∀ v, IntsAt v a l → Calls Try.prog 75 #[.agg #[.int .i64 z, .slice a l.length c]] v fun e w' => e = .returned (.bool (noF z l || okF z l)) ∧ Below v.heap.size v w') := mkHid fun v hv => sGood_any z l a c v hv
  have HG' : Hid (∀ v, IntsAt v a' l' → Calls Try.prog 75 #[.agg #[.int .i64 z', .slice a' l'.length c']] v fun e w' => e = .returned (.bool (noF z' l' || okF z' l')) ∧ Below v.heap.size v w') := mkHid fun v hv => sGood_any z' l' a' c' v hv
  have HN : Hid (∀ v, Calls Try.prog 51 #[.agg #[.int .i64 z, .slice a l.length c]] v fun e w' => e = .returned (.bool (noF z l)) ∧ Below v.heap.size v w') := mkHid fun v => by rw [← noN_eq]; exact sNoF_any z a l.length c v
  have HN' : Hid (∀ v, Calls Try.prog 51 #[.agg #[.int .i64 z', .slice a' l'.length c']] v fun e w' => e = .returned (.bool (noF z' l')) ∧ Below v.heap.size v w') := mkHid fun v => by rw [← noN_eq]; exact sNoF_any z' a' l'.length c' v
  rw [← goB_pair]
  obtain ⟨g1, hg1⟩ : ∃ g, (noF z l || okF z l) = g := ⟨_, rfl⟩
  obtain ⟨g2, hg2⟩ : ∃ g, (noF z' l' || okF z' l') = g := ⟨_, rfl⟩
  obtain ⟨n1, hn1⟩ : ∃ g, noF z l = g := ⟨_, rfl⟩
  obtain ⟨n2, hn2⟩ : ∃ g, noF z' l' = g := ⟨_, rfl⟩
  rw [hg1] at HG
  rw [hg2] at HG'
  rw [hn1] at HN
  rw [hn2] at HN'
  rw [hg1, hg2, hn1, hn2]
  clear hl hl' hg1 hg2 hn1 hn2
  go_enter Try.func50, Try.ntmps50
  go_wp2_with fail
  refine (HG.out _ (HL.out.below B0.out)).mono ?_
  rintro e w1 ⟨rfl, hb⟩
  have B1 := mkHid (below_step B0.out hb)
  have T1 := mkHid (T0.out.below hb)
  have U1 := mkHid (U0.out.below hb)
  clear hb B0 T0 U0
  cases g1
  · go_wp2
    go_ret
    exact ⟨rfl, B1.out⟩
  · obtain ⟨u0, u1⟩ := U1.out
    go_wp2_with fail
    refine (HG'.out _ (HL'.out.below B1.out)).mono ?_
    rintro e w2 ⟨rfl, hb⟩
    have B2 := mkHid (below_step B1.out hb)
    have T2 := mkHid (T1.out.below hb)
    have U2 := mkHid (U1.out.below hb)
    clear hb B1 T1 U1 u0 u1
    cases g2
    · go_wp2
      go_ret
      exact ⟨rfl, B2.out⟩
    · obtain ⟨t0, t1⟩ := T2.out
      go_wp2_with fail
      refine (HN.out _).mono ?_
      rintro e w3 ⟨rfl, hb⟩
      have B3 := mkHid (below_step B2.out hb)
      have T3 := mkHid (T2.out.below hb)
      have U3 := mkHid (U2.out.below hb)
      clear hb B2 T2 U2 t0 t1
      cases n1
      · obtain ⟨u0, u1⟩ := U3.out
        go_wp2_with fail
        refine (HN'.out _).mono ?_
        rintro e w4 ⟨rfl, hb⟩
        have B4 := mkHid (below_step B3.out hb)
        have T4 := mkHid (T3.out.below hb)
        have U4 := mkHid (U3.out.below hb)
        clear hb B3 T3 U3 u0 u1
        cases n2
        · obtain ⟨t0, t1⟩ := T4.out
          obtain ⟨u0, u1⟩ := U4.out
          by_cases hz : z = z'
          · subst hz
            have hb2 : (z == z) = true := by simp
            go_wp2
            go_ret
            exact ⟨ret_bool (by simp), B4.out⟩
          · have hb2 : (z == z') = false := by simp [hz]
            have HZ := mkHid hz
            clear hz
            go_wp2
            go_ret
            exact ⟨ret_bool (by simp [HZ.out]), B4.out⟩
        · go_wp2
          go_ret
          exact ⟨rfl, B4.out⟩
      · go_wp2
        go_ret
        exact ⟨rfl, B3.out⟩
set_option maxRecDepth 100000 in
set_option maxHeartbeats 1600000 in
theorem iGo_any (z : Int) (l : List Int) (a : Option Addr) (c : Nat) (z' : Int) (l' : List Int) (a' : Option Addr) (c' : Nat) (w : World) (hl : IntsAt w a l) (hl' : IntsAt w a' l') : Calls Try.prog 38 #[.agg #[.int .i64 z, .slice a l.length c], .agg #[.int .i64 z', .slice a' l'.length c']] w fun e w' => e = .returned (.bool (goB z l z' l')) ∧ Below w.heap.size w w' := by
  have HL := mkHid hl
  have HL' := mkHid hl'
  have B0 := mkHid (((Below.refl w.heap.size w).alloc (Nat.le_refl _) (.cells #[.int .i64 z, .slice a l.length c] 26)).alloc (by simp) (.cells #[.int .i64 z', .slice a' l'.length c'] 26))
  have T0 := mkHid ((Fc.new w z a l.length c 26).alloc (.cells #[.int .i64 z', .slice a' l'.length c'] 26))
  have U0 : Hid (Fc ((w.alloc (.cells #[.int .i64 z, .slice a l.length c] 26)).alloc (.cells #[.int .i64 z', .slice a' l'.length c'] 26)) (w.heap.size + 1) z' a' l'.length c') := mkHid (by have := Fc.new (w.alloc (.cells #[.int .i64 z, .slice a l.length c] 26)) z' a' l'.length c' 26; simpa using this)
  have HO : Hid (∀ v, IntsAt v a l → Calls Try.prog 44 #[.agg #[.int .i64 z, .slice a l.length c]] v fun e w' => e = .returned (.bool (okF z l)) ∧ Below v.heap.size v w') := mkHid fun v hv => iOk_any z l a c v hv
  have HO' : Hid (∀ v, IntsAt v a' l' → Calls Try.prog 44 #[.agg #[.int .i64 z', .slice a' l'.length c']] v fun e w' => e = .returned (.bool (okF z' l')) ∧ Below v.heap.size v w') := mkHid fun v hv => iOk_any z' l' a' c' v hv
  have HN : Hid (∀ v, Calls Try.prog 74 #[.agg #[.int .i64 z, .slice a l.length c]] v fun e w' => e = .returned (.bool (noF z l)) ∧ Below v.heap.size v w') := mkHid fun v => by rw [← noN_eq]; exact iNoF_any z a l.length c v
  have HN' : Hid (∀ v, Calls Try.prog 74 #[.agg #[.int .i64 z', .slice a' l'.length c']] v fun e w' => e = .returned (.bool (noF z' l')) ∧ Below v.heap.size v w') := mkHid fun v => by rw [← noN_eq]; exact iNoF_any z' a' l'.length c' v
  unfold goB
  obtain ⟨k1, hk1⟩ : ∃ g, okF z l = g := ⟨_, rfl⟩
  obtain ⟨k2, hk2⟩ : ∃ g, okF z' l' = g := ⟨_, rfl⟩
  obtain ⟨n1, hn1⟩ : ∃ g, noF z l = g := ⟨_, rfl⟩
  obtain ⟨n2, hn2⟩ : ∃ g, noF z' l' = g := ⟨_, rfl⟩
  rw [hk1] at HO
  rw [hk2] at HO'
  rw [hn1] at HN
  rw [hn2] at HN'
  rw [hk1, hk2, hn1, hn2]
  clear hl hl' hk1 hk2 hn1 hn2
  go_enter Try.func38, Try.ntmps38
  go_wp2_with fail
  refine (HN.out _).mono ?_
  rintro e w1 ⟨rfl, hb⟩
  have B1 := mkHid (below_step B0.out hb)
  have T1 := mkHid (T0.out.below hb)
  have U1 := mkHid (U0.out.below hb)
  clear hb B0 T0 U0
  obtain ⟨u0, u1⟩ := U1.out
  cases n1
  · go_wp2_with fail
    refine (HN'.out _).mono ?_
    rintro e w2 ⟨rfl, hb⟩
    have B2 := mkHid (below_step B1.out hb)
    have T2 := mkHid (T1.out.below hb)
    have U2 := mkHid (U1.out.below hb)
    clear hb B1 T1 U1 u0 u1
    obtain ⟨t0, t1⟩ := T2.out
    cases n2
    · go_wp2_with fail
      refine (HO.out _ (HL.out.below B2.out)).mono ?_
      rintro e w3 ⟨rfl, hb⟩
      have B3 := mkHid (below_step B2.out hb)
      have T3 := mkHid (T2.out.below hb)
      have U3 := mkHid (U2.out.below hb)
      clear hb B2 T2 U2 t0 t1
      cases k1
      · go_wp2
        go_ret
        exact ⟨rfl, B3.out⟩
      · obtain ⟨u0, u1⟩ := U3.out
        go_wp2_with fail
        refine (HO'.out _ (HL'.out.below B3.out)).mono ?_
        rintro e w4 ⟨rfl, hb⟩
        have B4 := mkHid (below_step B3.out hb)
        have T4 := mkHid (T3.out.below hb)
        have U4 := mkHid (U3.out.below hb)
        clear hb B3 T3 U3 u0 u1
        cases k2
        · go_wp2
          go_ret
          exact ⟨rfl, B4.out⟩
        · obtain ⟨t0, t1⟩ := T4.out
          obtain ⟨u0, u1⟩ := U4.out
          by_cases hz : z = z'
          · subst hz
            have hb2 : (z == z) = true := by simp
            go_wp2
            go_ret
            exact ⟨ret_bool (by simp), B4.out⟩
          · have hb2 : (z == z') = false := by simp [hz]
            have HZ := mkHid hz
            clear hz
            go_wp2
            go_ret
            exact ⟨ret_bool (by simp [HZ.out]), B4.out⟩
    · go_wp2_with fail
      refine (HO.out _ (HL.out.below B2.out)).mono ?_
      rintro e w3 ⟨rfl, hb⟩
      have B3 := mkHid (below_step B2.out hb)
      clear hb t0 t1
      go_wp2
      go_ret
      exact ⟨rfl, B3.out⟩
  · go_wp2_with fail
    refine (HN'.out _).mono ?_
    rintro e w2 ⟨rfl, hb⟩
    have B2 := mkHid (below_step B1.out hb)
    have U2 := mkHid (U1.out.below hb)
    clear hb B1 T1 U1 u0 u1
    cases n2
    · obtain ⟨u0, u1⟩ := U2.out
      go_wp2_with fail
      refine (HO'.out _ (HL'.out.below B2.out)).mono ?_
      rintro e w3 ⟨rfl, hb⟩
      have B3 := mkHid (below_step B2.out hb)
      clear hb u0 u1
      go_wp2
      go_ret
      exact ⟨rfl, B3.out⟩
    · go_wp2
      go_ret
      exact ⟨rfl, B2.out⟩
end Go.Proofs.Ytgclngofigffdaa
namespace Go.Proofs.Ytgclngofigffdaa
open Go.RowKit

theorem sat_fw {n : Nat} {f : Tab} {v : Nat → Int} (h : ∀ a b, a < n → b < n → v a - v b ≤ f a b) : ∀ k, k ≤ n → ∀ a b, a < n → b < n → v a - v b ≤ fwN f k a b
  | 0, _, a, b, ha, hb => h a b ha hb
  | k + 1, hk, a, b, ha, hb => by
    have ih := sat_fw h k (by omega)
    have h1 := ih a b ha hb
    have h2 := ih a k ha (by omega)
    have h3 := ih k b (by omega) hb
    show _ ≤ min (fwN f k a b) (fwN f k a k + fwN f k k b)
    omega
theorem sat_clo {n : Nat} {f : Tab} {v : Nat → Int} (h : ∀ a b, a < n → b < n → v a - v b ≤ f a b) : cloB n f = true ∧ ∀ a b, a < n → b < n → v a - v b ≤ clo n f a b := by
  have h1 := sat_fw h n (Nat.le_refl n)
  refine ⟨clo_iff.2 fun i hi => ?_, h1⟩
  have := h1 i i hi hi
  omega
end Go.Proofs.Ytgclngofigffdaa
namespace Go.Proofs.Ytgclngofigffdaa
open Go.RowKit

end Go.Proofs.Ytgclngofigffdaa
namespace Go.Proofs.Ytgclngofigffdaa
open Go.RowKit

end Go.Proofs.Ytgclngofigffdaa
namespace Go.Proofs.Ytgclngofigffdaa
open Go.RowKit

end Go.Proofs.Ytgclngofigffdaa
namespace Go.Proofs.Ytgclngofigffdaa
open Go.RowKit

end Go.Proofs.Ytgclngofigffdaa
namespace Go.Proofs.Ytgclngofigffdaa
open Go.RowKit

theorem Box.drew {v : World} {b : Nat} {x y : Int} (h : Box v b x y) : Box v.drew b x y := h.below (Below.refl _ _).drew
theorem Box.new (w : World) (x y : Int) (T : TypeId) : Box (w.alloc (.cells #[.int .i64 x, .int .i64 y] T)) w.heap.size x y := by
  refine ⟨?_, ?_, ?_, ?_⟩ <;> simp [go_sem]
end Go.Proofs.Ytgclngofigffdaa
namespace Go.Proofs.Ytgclngofigffdaa
open Go.RowKit

theorem grown_trans {a b c : World} {r : Option Nat} (h : a.grownBy b r) (k : b.grownBy c r) : a.grownBy c r := World.grownBy.trans h k
/-- Bytes that a slice holds. -/
def Bytes (w : World) (cb : Nat) (a : Option Addr) (n : Nat) : Prop := n = 0 ∨ ∃ b off, a = some ⟨b, off, none⟩ ∧ b < cb ∧ ∀ i, i < n → ∃ z : Int, 0 ≤ z ∧ z ≤ 255 ∧ w.cell? ⟨b, off + i, none⟩ = some (.int .u8 z)
def Cur (w : World) (cb : Nat) (a : Option Addr) (n cap bud : Nat) : Prop := ∃ (x : Nat) (seed : Int), w.heap[cb]? = some (.cells #[.slice a n cap, .int .i64 x, .int .i64 seed] 81 (0, 0)) ∧ x + 2 * bud ≤ 1000000 ∧ 0 ≤ seed ∧ seed ≤ 65521 ∧ n ≤ 1048576 ∧ Bytes w cb a n

theorem Bytes.grown {w w' : World} {cb n : Nat} {a : Option Addr} (h : Bytes w cb a n) (hg : w.grownBy w' (some cb)) : Bytes w' cb a n := by
  rcases h with h | ⟨b, off, e, hne, hc⟩
  · exact .inl h
  · refine .inr ⟨b, off, e, hne, fun i hi => ?_⟩
    obtain ⟨z, h0, h1, h2⟩ := hc i hi
    exact ⟨z, h0, h1, hg.cell h2 (by simp; omega)⟩
theorem grown_set (w : World) (cb i : Nat) (v : Value) : w.grownBy (w.setCell ⟨cb, i, none⟩ v) (some cb) :=
  ⟨rfl, rfl, rfl, by simp [World.setCell], fun k _ hk => Below.heap_setCell _ _ _ _ (fun e => hk (by simp [e]))⟩
theorem grown_drew (w : World) (k : Nat) (r : Option Nat) : w.grownBy (w.drewN k) r := ⟨rfl, rfl, rfl, Nat.le_refl _, fun _ _ _ => rfl⟩
theorem set1 {w : World} {cb : Nat} {A B C v : Value} (h : w.heap[cb]? = some (.cells #[A, B, C] 81 (0, 0))) : (w.setCell ⟨cb, 1, none⟩ v).heap[cb]? = some (.cells #[A, v, C] 81 (0, 0)) := heap_setCell_same w cb 1 _ 81 v h
theorem set2 {w : World} {cb : Nat} {A B C v : Value} (h : w.heap[cb]? = some (.cells #[A, B, C] 81 (0, 0))) : (w.setCell ⟨cb, 2, none⟩ v).heap[cb]? = some (.cells #[A, B, v] 81 (0, 0)) := heap_setCell_same w cb 2 _ 81 v h
theorem cur_one {w w' : World} {cb n cap bud x : Nat} {a : Option Addr} {seed' : Int} (hh : w'.heap[cb]? = some (.cells #[.slice a n cap, .int .i64 ((x : Int) + 1), .int .i64 seed'] 81 (0, 0))) (hx : x + 2 * (bud + 1) ≤ 1000000) (h0 : 0 ≤ seed') (h1 : seed' ≤ 65521) (hn : n ≤ 1048576) (hb : Bytes w cb a n) (hg : w.grownBy w' (some cb)) : Cur w' cb a n cap bud :=
  ⟨x + 1, seed', by rw [hh]; rfl, by omega, h0, h1, hn, hb.grown hg⟩
theorem cur_two {w w' : World} {cb n cap bud x : Nat} {a : Option Addr} {seed : Int} (hh : w'.heap[cb]? = some (.cells #[.slice a n cap, .int .i64 ((x : Int) + 1 + 1), .int .i64 seed] 81 (0, 0))) (hx : x + 2 * (bud + 1) ≤ 1000000) (h0 : 0 ≤ seed) (h1 : seed ≤ 65521) (hn : n ≤ 1048576) (hb : Bytes w cb a n) (hg : w.grownBy w' (some cb)) : Cur w' cb a n cap bud :=
  ⟨x + 2, seed, by rw [hh]; rfl, by omega, h0, h1, hn, hb.grown hg⟩

set_option maxHeartbeats 2000000 in
theorem pick_any (m : Int) (cb n cap bud : Nat) (a : Option Addr) (w : World) (hm : m ≤ 1000000) (hC : Cur w cb a n cap (bud + 1)) :
    Calls Try.prog 72 #[.pointer (some ⟨cb, 0, none⟩), .int .i64 m] w fun e w' => ∃ r : Int, e = .returned (.int .i64 r) ∧ 0 ≤ r ∧ (r < m ∨ r = 0) ∧ Cur w' cb a n cap bud ∧ w.grownBy w' (some cb) := by
  obtain ⟨x, seed, hh, hx1, hs0, hs1, hn, hby⟩ := hC
  have c0 : w.cell? ⟨cb, 0, none⟩ = some (.slice a n cap) := by rw [Lib.cell_of_heap hh]; rfl
  have c1 : w.cell? ⟨cb, 1, none⟩ = some (.int .i64 x) := by rw [Lib.cell_of_heap hh]; rfl
  have c2 : w.cell? ⟨cb, 2, none⟩ = some (.int .i64 seed) := by rw [Lib.cell_of_heap hh]; rfl
  have f1 := Lib.frozen_of_heap hh 1
  have f2 := Lib.frozen_of_heap hh 2
  have HH := mkHid hh
  have HY := mkHid hby
  clear hh hby
  by_cases h2 : m < 2
  · go_enter Try.func72, Try.ntmps72
    go_wp2
    go_ret
    exact ⟨0, rfl, by omega, .inr rfl, ⟨x, seed, HH.out, by omega, hs0, hs1, hn, HY.out⟩, ⟨rfl, rfl, rfl, Nat.le_refl _, fun _ _ _ => rfl⟩⟩
  · by_cases hin : (x : Int) < (n : Int)
    · obtain ⟨b, off, rfl, hbc, hb⟩ := HY.out.resolve_left (by omega)
      obtain ⟨z, hz0, hz1, hz⟩ := hb x (by omega)
      by_cases h200 : 200 < m ∧ (x : Int) + 1 < (n : Int)
      · obtain ⟨h20, h21⟩ := h200
        obtain ⟨z2, hz20, hz21, hz2⟩ := hb (x + 1) (by omega)
        have hd : decide (200 < m) = true := by simpa using h20
        have hd2 : decide ((x : Int) + 1 < (n : Int)) = true := by simpa using h21
        have e0 : ∀ K, ((w.drewN K).setCell ⟨cb, 1, none⟩ (.int .i64 ((x : Int) + 1))).cell? ⟨cb, 0, none⟩ = some (.slice (some ⟨b, off, none⟩) n cap) := fun K => by rw [Lib.cell_of_heap (set1 (w := w.drewN K) HH.out)]; rfl
        have e1 : ∀ K, ((w.drewN K).setCell ⟨cb, 1, none⟩ (.int .i64 ((x : Int) + 1))).cell? ⟨cb, 1, none⟩ = some (.int .i64 ((x : Int) + 1)) := fun K => by rw [Lib.cell_of_heap (set1 (w := w.drewN K) HH.out)]; rfl
        have e2 : ∀ K, ((w.drewN K).setCell ⟨cb, 1, none⟩ (.int .i64 ((x : Int) + 1))).cell? ⟨b, off + (x + 1), none⟩ = some (.int .u8 z2) := fun K => (grown_set (w.drewN K) cb 1 _).cell hz2 (by simp; omega)
        have e3 : ∀ K, ((w.drewN K).setCell ⟨cb, 1, none⟩ (.int .i64 ((x : Int) + 1))).frozen? ⟨cb, 1, none⟩ = false := fun K => Lib.frozen_of_heap (set1 (w := w.drewN K) HH.out) 1
        go_enter Try.func72, Try.ntmps72
        go_wp2
        go_quiet (fail)
        go_wp2
        go_quiet (fail)
        go_wp2
        go_quiet (fail)
        go_wp2
        go_quiet (fail)
        go_wp2
        go_ret
        refine ⟨_, rfl, Int.emod_nonneg _ (by omega), .inl (Int.emod_lt_of_pos _ (by omega)), ?_, ?_⟩
        · exact cur_two (seed := seed) (set1 (w := ((w.drewN _).setCell ⟨cb, 1, none⟩ (.int .i64 ((x : Int) + 1))).drewN _) (set1 (w := w.drewN _) HH.out)) hx1 hs0 hs1 hn HY.out (grown_trans (grown_trans (grown_drew _ _ _) (grown_set _ _ _ _)) (grown_trans (grown_drew _ _ _) (grown_set _ _ _ _)))
        · exact grown_trans (grown_trans (grown_drew _ _ _) (grown_set _ _ _ _)) (grown_trans (grown_drew _ _ _) (grown_set _ _ _ _))
      · by_cases h20 : 200 < m
        · have hd : decide (200 < m) = true := by simpa using h20
          have hd2 : decide ((x : Int) + 1 < (n : Int)) = false := by simp; omega
          clear h200
          go_enter Try.func72, Try.ntmps72
          go_wp2
          go_quiet (fail)
          go_wp2
          go_quiet (fail)
          go_wp2
          go_quiet (fail)
          go_wp2
          go_ret
          refine ⟨_, rfl, Int.emod_nonneg _ (by omega), .inl (Int.emod_lt_of_pos _ (by omega)), ?_, ?_⟩
          · exact cur_one (seed' := seed) (set1 (w := w.drewN _) HH.out) hx1 hs0 hs1 hn HY.out (grown_trans (grown_drew _ _ _) (grown_set _ _ _ _))
          · exact grown_trans (grown_drew _ _ _) (grown_set _ _ _ _)
        · have hd : decide (200 < m) = false := by simp; omega
          clear h200
          go_enter Try.func72, Try.ntmps72
          go_wp2
          go_quiet (fail)
          go_wp2
          go_quiet (fail)
          go_wp2
          go_quiet (fail)
          go_wp2
          go_ret
          refine ⟨_, rfl, Int.emod_nonneg _ (by omega), .inl (Int.emod_lt_of_pos _ (by omega)), ?_, ?_⟩
          · exact cur_one (seed' := seed) (set1 (w := w.drewN _) HH.out) hx1 hs0 hs1 hn HY.out (grown_trans (grown_drew _ _ _) (grown_set _ _ _ _))
          · exact grown_trans (grown_drew _ _ _) (grown_set _ _ _ _)
    · by_cases hn0 : 0 < (n : Int)
      · obtain ⟨b, off, rfl, hbc, hb⟩ := HY.out.resolve_left (by omega)
        obtain ⟨z, hz0, hz1, hz⟩ := hb (x % n) (Nat.mod_lt _ (by omega))
        have s0 : 0 ≤ (seed * 1103 + 12345) % 65521 ∧ (seed * 1103 + 12345) % 65521 ≤ 65521 := by omega
        obtain ⟨s0, s1⟩ := s0
        have e0 : ∀ K v, ((w.drewN K).setCell ⟨cb, 2, none⟩ v).cell? ⟨cb, 0, none⟩ = some (.slice (some ⟨b, off, none⟩) n cap) := fun K v => by rw [Lib.cell_of_heap (set2 (w := w.drewN K) HH.out)]; rfl
        have e1 : ∀ K v, ((w.drewN K).setCell ⟨cb, 2, none⟩ v).cell? ⟨cb, 1, none⟩ = some (.int .i64 (x : Int)) := fun K v => by rw [Lib.cell_of_heap (set2 (w := w.drewN K) HH.out)]; rfl
        have e4 : ∀ K v, ((w.drewN K).setCell ⟨cb, 2, none⟩ v).cell? ⟨cb, 2, none⟩ = some v := fun K v => by rw [Lib.cell_of_heap (set2 (w := w.drewN K) HH.out)]; rfl
        have e2 : ∀ K v, ((w.drewN K).setCell ⟨cb, 2, none⟩ v).cell? ⟨b, off + x % n, none⟩ = some (.int .u8 z) := fun K v => (grown_set (w.drewN K) cb 2 _).cell hz (by simp; omega)
        have e3 : ∀ K v, ((w.drewN K).setCell ⟨cb, 2, none⟩ v).frozen? ⟨cb, 1, none⟩ = false := fun K v => Lib.frozen_of_heap (set2 (w := w.drewN K) HH.out) 1
        have hmod0 : (0 : Int) ≤ (x : Int) % (n : Int) := by omega
        have hmod1 : (x : Int) % (n : Int) < (n : Int) := Int.emod_lt_of_pos _ hn0
        go_enter Try.func72, Try.ntmps72
        go_wp2
        go_quiet (fail)
        go_wp2
        go_quiet (fail)
        go_wp2
        go_ret
        refine ⟨_, rfl, Int.emod_nonneg _ (by omega), .inl (Int.emod_lt_of_pos _ (by omega)), ?_, ?_⟩
        · exact cur_one (seed' := (seed * 1103 + 12345) % 65521) (set1 (w := ((w.drewN _).setCell ⟨cb, 2, none⟩ (.int .i64 ((seed * 1103 + 12345) % 65521))).drewN _) (set2 (w := w.drewN _) HH.out)) hx1 s0 s1 hn HY.out (grown_trans (grown_trans (grown_drew _ _ _) (grown_set _ _ _ _)) (grown_trans (grown_drew _ _ _) (grown_set _ _ _ _)))
        · exact grown_trans (grown_trans (grown_drew _ _ _) (grown_set _ _ _ _)) (grown_trans (grown_drew _ _ _) (grown_set _ _ _ _))
      · go_enter Try.func72, Try.ntmps72
        go_wp2
        go_quiet (fail)
        go_wp2
        go_ret
        have s0 : 0 ≤ (seed * 1103 + 12345) % 65521 ∧ (seed * 1103 + 12345) % 65521 ≤ 65521 := by omega
        refine ⟨0, rfl, by omega, .inr rfl, ?_, ?_⟩
        · exact cur_one (seed' := (seed * 1103 + 12345) % 65521) (set1 (set2 (w := w.drewN _) HH.out)) hx1 s0.1 s0.2 hn HY.out (grown_trans (grown_drew _ _ _) (grown_trans (grown_set _ _ _ _) (grown_set _ _ _ _)))
        · exact grown_trans (grown_drew _ _ _) (grown_trans (grown_set _ _ _ _) (grown_set _ _ _ _))

set_option maxHeartbeats 400000 in
theorem open_any (n cap : Nat) (a : Option Addr) (w : World) (hn : n ≤ 1048576) (hb : Bytes w w.heap.size a n) :
    Calls Try.prog 35 #[.slice a n cap] w fun e w' => e = .returned (.pointer (some ⟨w.heap.size, 0, none⟩)) ∧ Cur w' w.heap.size a n cap 499999 ∧ Below w.heap.size w w' := by
  have HB := mkHid hb
  clear hb
  go_enter Try.func35, Try.ntmps35
  go_wp2
  go_ret
  have hg : w.grownBy (w.alloc (.cells #[.slice a n cap, .int .i64 0, .int .i64 (7 + (n : Int) % 1000)] 81)) (some w.heap.size) := World.grownBy_alloc w _ _
  exact ⟨rfl, ⟨0, 7 + (n : Int) % 1000, heap_alloc_new w _, by omega, by omega, by omega, hn, HB.out.grown hg⟩, (Below.refl _ _).alloc (Nat.le_refl _) _⟩
end Go.Proofs.Ytgclngofigffdaa
namespace Go.Proofs.Ytgclngofigffdaa
open Go.RowKit

end Go.Proofs.Ytgclngofigffdaa
namespace Go.Proofs.Ytgclngofigffdaa
open Go.RowKit

end Go.Proofs.Ytgclngofigffdaa
namespace Go.Proofs.Ytgclngofigffdaa
open Go.RowKit
attribute [local go_sem] nlt2 nlt3 nlt4 nle2 nle3 nle4 drew_size drew_cell drew_frozen

theorem bl_set2 {w a : World} {p : Addr} (hp : w.heap.size ≤ p.block) (h : Below w.heap.size w a) (u : Value) : Below w.heap.size w (a.setCell p u) := h.setCell hp u
end Go.Proofs.Ytgclngofigffdaa
