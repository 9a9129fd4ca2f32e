/-
  CONTRACTS of goTogether, isNoFacts, l07Good, l07Pair: which two Facts go together.
  PURE: facts that are so of numbers are so when closed; what SymMost tells is never less than what is.
  CONTRACT of the program's freed.
  CONTRACT of the program's FactsForget.
  CONTRACT of the program's FactsCopy.
  CONTRACT of the program's FactsShift.
  CONTRACTS of both FactsRanges.
-/
import Derived.Test.YtgclngofigffdaaFh09
import Derived.Test.YtgclngofigffdaaFh07
import Derived.Test.YtgclngofigffdaaFh08
import Derived.Test.YtgclngofigffdaaFh06
namespace Go.Proofs.Ytgclngofigffdaa
open Go.RowKit

theorem noN_eq (z : Int) (l : List Int) : noN z l.length = noF z l := by unfold noN noF; rw [decide_eq_decide]; simp [List.length_eq_zero_iff]
/-- Two Facts go together. -/
def goB (z : Int) (l : List Int) (z' : Int) (l' : List Int) : Bool := if noF z l then noF z' l' || okF z' l' else if noF z' l' then okF z l else okF z l && (okF z' l' && decide (z = z'))
theorem goB_pair (z : Int) (l : List Int) (z' : Int) (l' : List Int) : ((noF z l || okF z l) && ((noF z' l' || okF z' l') && (noF z l || (noF z' l' || decide (z = z'))))) = goB z l z' l' := by
  unfold goB
  cases noF z l <;> cases noF z' l' <;> cases okF z l <;> cases okF z' l' <;> simp
/-- The closed table, or none. -/
def cF (z : Int) (l : List Int) : Option Tab := (okO z l).bind (cloO z.toNat)
theorem cF_fine (z : Int) (l : List Int) : FineO z.toNat (cF z l) := clo_fineO (okO_fine z l)
theorem cF_ok {z : Int} {l : List Int} {f : Tab} (h : cF z l = some f) : okF z l = true := by
  unfold cF at h
  cases hk : okF z l
  · rw [okO_no hk] at h; cases h
  · rfl
theorem cF_closed {z : Int} {l : List Int} {f : Tab} (h : cF z l = some f) : Closed z.toNat f := by
  have hok := cF_ok h
  unfold cF at h
  rw [okO_yes hok] at h
  simp only [Option.bind_some, cloO] at h
  split at h
  · rename_i hc
    cases h
    obtain ⟨n, rfl, _, _, _, _, hf⟩ := ok_of hok
    rw [Int.toNat_natCast] at hc ⊢
    exact clo_closed hf.diag hc
  · cases h
/-- Both have a table: the sizes are the same. -/
theorem go_same {z z' : Int} {l l' : List Int} {f g : Tab} (h : goB z l z' l' = true) (h1 : cF z l = some f) (h2 : cF z' l' = some g) : z = z' ∧ ∃ n : Nat, z = n ∧ 1 ≤ n ∧ n ≤ 13 := by
  have k1 := cF_ok h1
  have k2 := cF_ok h2
  unfold goB at h
  rw [ok_no k1, ok_no k2, k1, k2] at h
  have e : z = z' := by simpa using h
  obtain ⟨n, q0, q1, q2, _⟩ := ok_of k1
  exact ⟨e, n, q0, q1, q2⟩
set_option maxHeartbeats 800000 in
theorem iNoF_any (z : Int) (a : Option Addr) (n c : Nat) (w : World) : Calls Try.prog 74 #[.agg #[.int .i64 z, .slice a n c]] w fun e w' => e = .returned (.bool (noN z n)) ∧ Below w.heap.size w w' := by
  by_cases h1 : z = 0
  · have hb1 : (z == 0) = true := by rw [beq_iff_eq]; exact h1
    by_cases h2 : n = 0
    · have hb2 : ((n : Int) == 0) = true := by rw [beq_iff_eq]; omega
      have e := mkHid (show noN z n = true from decide_eq_true ⟨h1, h2⟩)
      clear h1 h2
      go_enter Try.func74, Try.ntmps74
      go_wp2
      go_ret
      exact ⟨ret_bool e.out.symm, (Below.refl _ _).alloc (Nat.le_refl _) _⟩
    · have hb2 : ((n : Int) == 0) = false := by rw [beq_eq_false_iff_ne]; omega
      have e := mkHid (show noN z n = false from decide_eq_false fun h => h2 h.2)
      clear h1 h2
      go_enter Try.func74, Try.ntmps74
      go_wp2
      go_ret
      exact ⟨ret_bool e.out.symm, (Below.refl _ _).alloc (Nat.le_refl _) _⟩
  · have hb1 : (z == 0) = false := by rw [beq_eq_false_iff_ne]; exact h1
    have e := mkHid (show noN z n = false from decide_eq_false fun h => h1 h.1)
    clear h1
    go_enter Try.func74, Try.ntmps74
    go_wp2
    go_ret
    exact ⟨ret_bool e.out.symm, (Below.refl _ _).alloc (Nat.le_refl _) _⟩
set_option maxHeartbeats 800000 in
theorem sGood_any (z : Int) (l : List Int) (a : Option Addr) (c : Nat) (w : World) (hl : IntsAt w a l) : Calls Try.prog 75 #[.agg #[.int .i64 z, .slice a l.length c]] w fun e w' => e = .returned (.bool (noF z l || okF z l)) ∧ Below w.heap.size w w' := by
  have HL := mkHid hl
  have B0 := mkHid ((Below.refl w.heap.size w).alloc (Nat.le_refl _) (.cells #[.int .i64 z, .slice a l.length c] 26))
  have T0 := mkHid (Fc.new w z a l.length c 26)
  have HN : Hid (∀ v, Calls Try.prog 51 #[.agg #[.int .i64 z, .slice a l.length c]] v fun e w' => e = .returned (.bool (noF z l)) ∧ Below v.heap.size v w') := mkHid fun v => by rw [← noN_eq]; exact sNoF_any z a l.length c v
  obtain ⟨n1, hn1⟩ : ∃ g, noF z l = g := ⟨_, rfl⟩
  rw [hn1] at HN
  rw [hn1]
  clear hl hn1
  go_enter Try.func75, Try.ntmps75
  go_wp2_with fail
  refine (HN.out _).mono ?_
  rintro e w1 ⟨rfl, hb⟩
  have B1 := mkHid (below_step B0.out hb)
  have T1 := mkHid (T0.out.below hb)
  clear hb B0 T0
  cases n1
  · obtain ⟨t0, t1⟩ := T1.out
    go_wp2_with fail
    refine (sOkF_any z l a c _ (HL.out.below B1.out)).mono ?_
    rintro e w2 ⟨rfl, hb⟩
    have B2 := mkHid (below_step B1.out hb)
    clear hb t0 t1
    go_wp2
    go_ret
    exact ⟨rfl, B2.out⟩
  · go_wp2
    go_ret
    exact ⟨rfl, B1.out⟩
set_option maxRecDepth 100000 in
set_option maxHeartbeats 1600000 in
theorem sPair_any (z : Int) (l : List Int) (a : Option Addr) (c : Nat) (z' : Int) (l' : List Int) (a' : Option Addr) (c' : Nat) (w : World) (hl : IntsAt w a l) (hl' : IntsAt w a' l') : Calls Try.prog 50 #[.agg #[.int .i64 z, .slice a l.length c], .agg #[.int .i64 z', .slice a' l'.length c']] w fun e w' => e = .returned (.bool (goB z l z' l')) ∧ Below w.heap.size w w' := by
  have HL := mkHid hl
  have HL' := mkHid hl'
  have B0 := mkHid (((Below.refl w.heap.size w).alloc (Nat.le_refl _) (.cells #[.int .i64 z, .slice a l.length c] 26)).alloc (by simp) (.cells #[.int .i64 z', .slice a' l'.length c'] 26))
  have T0 := mkHid ((Fc.new w z a l.length c 26).alloc (.cells #[.int .i64 z', .slice a' l'.length c'] 26))
  have U0 : Hid (Fc ((w.alloc (.cells #[.int .i64 z, .slice a l.length c] 26)).alloc (.cells #[.int .i64 z', .slice a' l'.length c'] 26)) (w.heap.size + 1) z' a' l'.length c') := mkHid (by have := Fc.new (w.alloc (.cells #[.int .i64 z, .slice a l.length c] 26)) z' a' l'.length c' 26; simpa using this)
  have HG : Hid (∀ v, IntsAt v a l → Calls Try.prog 75 #[.agg #[.int .i64 z, .slice a l.length c]] v fun e w' => e = .returned (.bool (noF z l || okF z l)) ∧ Below v.heap.size v w') := mkHid fun v hv => sGood_any z l a c v hv
  have HG' : Hid (∀ v, IntsAt v a' l' → Calls Try.prog 75 #[.agg #[.int .i64 z', .slice a' l'.length c']] v fun e w' => e = .returned (.bool (noF z' l' || okF z' l')) ∧ Below v.heap.size v w') := mkHid fun v hv => sGood_any z' l' a' c' v hv
  have HN : Hid (∀ v, Calls Try.prog 51 #[.agg #[.int .i64 z, .slice a l.length c]] v fun e w' => e = .returned (.bool (noF z l)) ∧ Below v.heap.size v w') := mkHid fun v => by rw [← noN_eq]; exact sNoF_any z a l.length c v
  have HN' : Hid (∀ v, Calls Try.prog 51 #[.agg #[.int .i64 z', .slice a' l'.length c']] v fun e w' => e = .returned (.bool (noF z' l')) ∧ Below v.heap.size v w') := mkHid fun v => by rw [← noN_eq]; exact sNoF_any z' a' l'.length c' v
  rw [← goB_pair]
  obtain ⟨g1, hg1⟩ : ∃ g, (noF z l || okF z l) = g := ⟨_, rfl⟩
  obtain ⟨g2, hg2⟩ : ∃ g, (noF z' l' || okF z' l') = g := ⟨_, rfl⟩
  obtain ⟨n1, hn1⟩ : ∃ g, noF z l = g := ⟨_, rfl⟩
  obtain ⟨n2, hn2⟩ : ∃ g, noF z' l' = g := ⟨_, rfl⟩
  rw [hg1] at HG
  rw [hg2] at HG'
  rw [hn1] at HN
  rw [hn2] at HN'
  rw [hg1, hg2, hn1, hn2]
  clear hl hl' hg1 hg2 hn1 hn2
  go_enter Try.func50, Try.ntmps50
  go_wp2_with fail
  refine (HG.out _ (HL.out.below B0.out)).mono ?_
  rintro e w1 ⟨rfl, hb⟩
  have B1 := mkHid (below_step B0.out hb)
  have T1 := mkHid (T0.out.below hb)
  have U1 := mkHid (U0.out.below hb)
  clear hb B0 T0 U0
  cases g1
  · go_wp2
    go_ret
    exact ⟨rfl, B1.out⟩
  · obtain ⟨u0, u1⟩ := U1.out
    go_wp2_with fail
    refine (HG'.out _ (HL'.out.below B1.out)).mono ?_
    rintro e w2 ⟨rfl, hb⟩
    have B2 := mkHid (below_step B1.out hb)
    have T2 := mkHid (T1.out.below hb)
    have U2 := mkHid (U1.out.below hb)
    clear hb B1 T1 U1 u0 u1
    cases g2
    · go_wp2
      go_ret
      exact ⟨rfl, B2.out⟩
    · obtain ⟨t0, t1⟩ := T2.out
      go_wp2_with fail
      refine (HN.out _).mono ?_
      rintro e w3 ⟨rfl, hb⟩
      have B3 := mkHid (below_step B2.out hb)
      have T3 := mkHid (T2.out.below hb)
      have U3 := mkHid (U2.out.below hb)
      clear hb B2 T2 U2 t0 t1
      cases n1
      · obtain ⟨u0, u1⟩ := U3.out
        go_wp2_with fail
        refine (HN'.out _).mono ?_
        rintro e w4 ⟨rfl, hb⟩
        have B4 := mkHid (below_step B3.out hb)
        have T4 := mkHid (T3.out.below hb)
        have U4 := mkHid (U3.out.below hb)
        clear hb B3 T3 U3 u0 u1
        cases n2
        · obtain ⟨t0, t1⟩ := T4.out
          obtain ⟨u0, u1⟩ := U4.out
          by_cases hz : z = z'
          · subst hz
            have hb2 : (z == z) = true := by simp
            go_wp2
            go_ret
            exact ⟨ret_bool (by simp), B4.out⟩
          · have hb2 : (z == z') = false := by simp [hz]
            have HZ := mkHid hz
            clear hz
            go_wp2
            go_ret
            exact ⟨ret_bool (by simp [HZ.out]), B4.out⟩
        · go_wp2
          go_ret
          exact ⟨rfl, B4.out⟩
      · go_wp2
        go_ret
        exact ⟨rfl, B3.out⟩
set_option maxRecDepth 100000 in
set_option maxHeartbeats 1600000 in
theorem iGo_any (z : Int) (l : List Int) (a : Option Addr) (c : Nat) (z' : Int) (l' : List Int) (a' : Option Addr) (c' : Nat) (w : World) (hl : IntsAt w a l) (hl' : IntsAt w a' l') : Calls Try.prog 38 #[.agg #[.int .i64 z, .slice a l.length c], .agg #[.int .i64 z', .slice a' l'.length c']] w fun e w' => e = .returned (.bool (goB z l z' l')) ∧ Below w.heap.size w w' := by
  have HL := mkHid hl
  have HL' := mkHid hl'
  have B0 := mkHid (((Below.refl w.heap.size w).alloc (Nat.le_refl _) (.cells #[.int .i64 z, .slice a l.length c] 26)).alloc (by simp) (.cells #[.int .i64 z', .slice a' l'.length c'] 26))
  have T0 := mkHid ((Fc.new w z a l.length c 26).alloc (.cells #[.int .i64 z', .slice a' l'.length c'] 26))
  have U0 : Hid (Fc ((w.alloc (.cells #[.int .i64 z, .slice a l.length c] 26)).alloc (.cells #[.int .i64 z', .slice a' l'.length c'] 26)) (w.heap.size + 1) z' a' l'.length c') := mkHid (by have := Fc.new (w.alloc (.cells #[.int .i64 z, .slice a l.length c] 26)) z' a' l'.length c' 26; simpa using this)
  have HO : Hid (∀ v, IntsAt v a l → Calls Try.prog 44 #[.agg #[.int .i64 z, .slice a l.length c]] v fun e w' => e = .returned (.bool (okF z l)) ∧ Below v.heap.size v w') := mkHid fun v hv => iOk_any z l a c v hv
  have HO' : Hid (∀ v, IntsAt v a' l' → Calls Try.prog 44 #[.agg #[.int .i64 z', .slice a' l'.length c']] v fun e w' => e = .returned (.bool (okF z' l')) ∧ Below v.heap.size v w') := mkHid fun v hv => iOk_any z' l' a' c' v hv
  have HN : Hid (∀ v, Calls Try.prog 74 #[.agg #[.int .i64 z, .slice a l.length c]] v fun e w' => e = .returned (.bool (noF z l)) ∧ Below v.heap.size v w') := mkHid fun v => by rw [← noN_eq]; exact iNoF_any z a l.length c v
  have HN' : Hid (∀ v, Calls Try.prog 74 #[.agg #[.int .i64 z', .slice a' l'.length c']] v fun e w' => e = .returned (.bool (noF z' l')) ∧ Below v.heap.size v w') := mkHid fun v => by rw [← noN_eq]; exact iNoF_any z' a' l'.length c' v
  unfold goB
  obtain ⟨k1, hk1⟩ : ∃ g, okF z l = g := ⟨_, rfl⟩
  obtain ⟨k2, hk2⟩ : ∃ g, okF z' l' = g := ⟨_, rfl⟩
  obtain ⟨n1, hn1⟩ : ∃ g, noF z l = g := ⟨_, rfl⟩
  obtain ⟨n2, hn2⟩ : ∃ g, noF z' l' = g := ⟨_, rfl⟩
  rw [hk1] at HO
  rw [hk2] at HO'
  rw [hn1] at HN
  rw [hn2] at HN'
  rw [hk1, hk2, hn1, hn2]
  clear hl hl' hk1 hk2 hn1 hn2
  go_enter Try.func38, Try.ntmps38
  go_wp2_with fail
  refine (HN.out _).mono ?_
  rintro e w1 ⟨rfl, hb⟩
  have B1 := mkHid (below_step B0.out hb)
  have T1 := mkHid (T0.out.below hb)
  have U1 := mkHid (U0.out.below hb)
  clear hb B0 T0 U0
  obtain ⟨u0, u1⟩ := U1.out
  cases n1
  · go_wp2_with fail
    refine (HN'.out _).mono ?_
    rintro e w2 ⟨rfl, hb⟩
    have B2 := mkHid (below_step B1.out hb)
    have T2 := mkHid (T1.out.below hb)
    have U2 := mkHid (U1.out.below hb)
    clear hb B1 T1 U1 u0 u1
    obtain ⟨t0, t1⟩ := T2.out
    cases n2
    · go_wp2_with fail
      refine (HO.out _ (HL.out.below B2.out)).mono ?_
      rintro e w3 ⟨rfl, hb⟩
      have B3 := mkHid (below_step B2.out hb)
      have T3 := mkHid (T2.out.below hb)
      have U3 := mkHid (U2.out.below hb)
      clear hb B2 T2 U2 t0 t1
      cases k1
      · go_wp2
        go_ret
        exact ⟨rfl, B3.out⟩
      · obtain ⟨u0, u1⟩ := U3.out
        go_wp2_with fail
        refine (HO'.out _ (HL'.out.below B3.out)).mono ?_
        rintro e w4 ⟨rfl, hb⟩
        have B4 := mkHid (below_step B3.out hb)
        have T4 := mkHid (T3.out.below hb)
        have U4 := mkHid (U3.out.below hb)
        clear hb B3 T3 U3 u0 u1
        cases k2
        · go_wp2
          go_ret
          exact ⟨rfl, B4.out⟩
        · obtain ⟨t0, t1⟩ := T4.out
          obtain ⟨u0, u1⟩ := U4.out
          by_cases hz : z = z'
          · subst hz
            have hb2 : (z == z) = true := by simp
            go_wp2
            go_ret
            exact ⟨ret_bool (by simp), B4.out⟩
          · have hb2 : (z == z') = false := by simp [hz]
            have HZ := mkHid hz
            clear hz
            go_wp2
            go_ret
            exact ⟨ret_bool (by simp [HZ.out]), B4.out⟩
    · go_wp2_with fail
      refine (HO.out _ (HL.out.below B2.out)).mono ?_
      rintro e w3 ⟨rfl, hb⟩
      have B3 := mkHid (below_step B2.out hb)
      clear hb t0 t1
      go_wp2
      go_ret
      exact ⟨rfl, B3.out⟩
  · go_wp2_with fail
    refine (HN'.out _).mono ?_
    rintro e w2 ⟨rfl, hb⟩
    have B2 := mkHid (below_step B1.out hb)
    have U2 := mkHid (U1.out.below hb)
    clear hb B1 T1 U1 u0 u1
    cases n2
    · obtain ⟨u0, u1⟩ := U2.out
      go_wp2_with fail
      refine (HO'.out _ (HL'.out.below B2.out)).mono ?_
      rintro e w3 ⟨rfl, hb⟩
      have B3 := mkHid (below_step B2.out hb)
      clear hb u0 u1
      go_wp2
      go_ret
      exact ⟨rfl, B3.out⟩
    · go_wp2
      go_ret
      exact ⟨rfl, B2.out⟩
end Go.Proofs.Ytgclngofigffdaa
namespace Go.Proofs.Ytgclngofigffdaa
open Go.RowKit

theorem sat_fw {n : Nat} {f : Tab} {v : Nat → Int} (h : ∀ a b, a < n → b < n → v a - v b ≤ f a b) : ∀ k, k ≤ n → ∀ a b, a < n → b < n → v a - v b ≤ fwN f k a b
  | 0, _, a, b, ha, hb => h a b ha hb
  | k + 1, hk, a, b, ha, hb => by
    have ih := sat_fw h k (by omega)
    have h1 := ih a b ha hb
    have h2 := ih a k ha (by omega)
    have h3 := ih k b (by omega) hb
    show _ ≤ min (fwN f k a b) (fwN f k a k + fwN f k k b)
    omega
theorem sat_clo {n : Nat} {f : Tab} {v : Nat → Int} (h : ∀ a b, a < n → b < n → v a - v b ≤ f a b) : cloB n f = true ∧ ∀ a b, a < n → b < n → v a - v b ≤ clo n f a b := by
  have h1 := sat_fw h n (Nat.le_refl n)
  refine ⟨clo_iff.2 fun i hi => ?_, h1⟩
  have := h1 i i hi hi
  omega
/-- What facts that are so of numbers say. -/
theorem has_of {z : Int} {l v : List Int} (h : hasF z l v = true) : ∃ n : Nat, z = n ∧ 1 ≤ n ∧ n ≤ 13 ∧ okF z l = true ∧ v.length = n ∧ v.getD 0 0 = 0 ∧ valsB v = true ∧ ∀ a b, a < n → b < n → v.getD a 0 - v.getD b 0 ≤ tab n l a b := by
  unfold hasF at h
  rw [Bool.and_eq_true, Bool.and_eq_true] at h
  obtain ⟨h1, h2, h3⟩ := h
  obtain ⟨n, rfl, q1, q2, q3, _, _⟩ := ok_of h1
  rw [Int.toNat_natCast] at h2 h3
  unfold vOkB at h2
  rw [Bool.and_eq_true] at h2
  have h4 := of_decide_eq_true h2.1
  refine ⟨n, rfl, q1, q2, h1, h4.1, h4.2, h2.2, fun a b ha hb => ?_⟩
  have h5 := List.all_eq_true.1 h3 (a * n + b) (List.mem_range.2 (by rw [q3]; exact idx_lt ha hb))
  have h6 := of_decide_eq_true h5
  rw [idx_div hb, idx_mod hb] at h6
  exact h6
end Go.Proofs.Ytgclngofigffdaa
namespace Go.Proofs.Ytgclngofigffdaa
open Go.RowKit

end Go.Proofs.Ytgclngofigffdaa
namespace Go.Proofs.Ytgclngofigffdaa
open Go.RowKit

end Go.Proofs.Ytgclngofigffdaa
namespace Go.Proofs.Ytgclngofigffdaa
open Go.RowKit

end Go.Proofs.Ytgclngofigffdaa
namespace Go.Proofs.Ytgclngofigffdaa
open Go.RowKit

end Go.Proofs.Ytgclngofigffdaa
namespace Go.Proofs.Ytgclngofigffdaa
open Go.RowKit

theorem Box.drew {v : World} {b : Nat} {x y : Int} (h : Box v b x y) : Box v.drew b x y := h.below (Below.refl _ _).drew
theorem Box.new (w : World) (x y : Int) (T : TypeId) : Box (w.alloc (.cells #[.int .i64 x, .int .i64 y] T)) w.heap.size x y := by
  refine ⟨?_, ?_, ?_, ?_⟩ <;> simp [go_sem]
end Go.Proofs.Ytgclngofigffdaa
