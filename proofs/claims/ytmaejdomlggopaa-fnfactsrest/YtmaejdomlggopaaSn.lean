/-
  CONTRACT of the specification's SymMost.
-/
import Derived.Test.YtmaejdomlggopaaSm
namespace Go.Proofs.Ytmaejdomlggopaa
open Go.RowKit

theorem btw_wide {n : Nat} {v c k : Int} (hk : (n : Int) - 1 = k) : (btw v 0 k && offB c) = wideB n v c := by rw [btw_sym' v hk]; rfl
set_option maxRecDepth 100000 in
set_option maxHeartbeats 3200000 in
theorem sSymMost_any (z : Int) (l : List Int) (a : Option Addr) (c0 : Nat) (av ac bv bc : Int) (w : World) (hl : IntsAt w a l) : Calls Try.prog 37 #[.agg #[.int .i64 z, .slice a l.length c0], .agg #[.int .i64 av, .int .i64 ac], .agg #[.int .i64 bv, .int .i64 bc]] w fun e w' => e = .returned (.tuple #[.int .i64 (mostF z l av ac bv bc).1, .bool (mostF z l av ac bv bc).2]) ∧ Below w.heap.size w w' := by
  have HL := mkHid hl
  have B0 := mkHid ((((Below.refl w.heap.size w).alloc (Nat.le_refl _) (.cells #[.int .i64 z, .slice a l.length c0] 27)).alloc (by simp) (.cells #[.int .i64 av, .int .i64 ac] 46)).alloc (by simp; omega) (.cells #[.int .i64 bv, .int .i64 bc] 46))
  have P0 : Hid (Box (((w.alloc (.cells #[.int .i64 z, .slice a l.length c0] 27)).alloc (.cells #[.int .i64 av, .int .i64 ac] 46)).alloc (.cells #[.int .i64 bv, .int .i64 bc] 46)) (w.heap.size + 1) av ac) := mkHid (by have := (Box.new' (w.alloc (.cells #[.int .i64 z, .slice a l.length c0] 27)) av ac 46).below ((Below.refl _ _).alloc (Nat.le_refl _) (.cells #[.int .i64 bv, .int .i64 bc] 46)); simpa using this)
  have Q0 : Hid (Box (((w.alloc (.cells #[.int .i64 z, .slice a l.length c0] 27)).alloc (.cells #[.int .i64 av, .int .i64 ac] 46)).alloc (.cells #[.int .i64 bv, .int .i64 bc] 46)) (w.heap.size + 2) bv bc) := mkHid (by have := Box.new' ((w.alloc (.cells #[.int .i64 z, .slice a l.length c0] 27)).alloc (.cells #[.int .i64 av, .int .i64 ac] 46)) bv bc 46; simpa using this)
  have HCL : Hid (∀ v, IntsAt v a l → Calls Try.prog 51 #[.agg #[.int .i64 z, .slice a l.length c0]] v fun e w' => Gives v w' e (outZ ((okO z l).bind (cloO z.toNat)) z.toNat) (outL ((okO z l).bind (cloO z.toNat)) z.toNat)) := mkHid fun v hv => sClose_any z l a c0 v hv
  have HF := mkHid (clo_fineO (okO_fine z l))
  have HM : Hid (mostF z l av ac bv bc = mostO ((okO z l).bind (cloO z.toNat)) z.toNat av ac bv bc) := mkHid rfl
  obtain ⟨P, hP⟩ : ∃ P, mostF z l av ac bv bc = P := ⟨_, rfl⟩
  rw [hP] at HM
  rw [hP]
  obtain ⟨O, hO⟩ : ∃ O, (okO z l).bind (cloO z.toNat) = O := ⟨_, rfl⟩
  rw [hO] at HCL HF HM
  obtain ⟨n, hn⟩ : ∃ n, z.toNat = n := ⟨_, rfl⟩
  rw [hn] at HCL HF HM
  clear hl hP hO hn
  go_enter Try.func37, Try.ntmps37
  go_wp2_with fail
  refine (HCL.out _ (HL.out.below B0.out)).mono ?_
  rintro e w1 ⟨sa, sc, rfl, so, hb⟩
  have A1 := (Below.refl w1.heap.size w1).alloc (Nat.le_refl _) (.cells #[.int .i64 (outZ O n), .slice sa (outL O n).length sc] 27)
  have B1 := mkHid ((below_step B0.out hb).alloc (below_step B0.out hb).size (.cells #[.int .i64 (outZ O n), .slice sa (outL O n).length sc] 27))
  have P1 := mkHid ((P0.out.below hb).below A1)
  have Q1 := mkHid ((Q0.out.below hb).below A1)
  have S1 := mkHid (so.below A1).at
  have X1 := mkHid (Fc.new w1 (outZ O n) sa (outL O n).length sc 27)
  clear hb so A1 B0 P0 Q0
  obtain ⟨x0, x1⟩ := X1.out
  obtain ⟨p0, p1, p2, p3⟩ := P1.out
  obtain ⟨q0, q1, q2, q3⟩ := Q1.out
  cases O with
  | none =>
    have e : Hid (P = (0, false)) := mkHid HM.out
    obtain ⟨r1, r2⟩ := P
    have e1 := congrArg Prod.fst e.out
    have e2 := congrArg Prod.snd e.out
    simp only at e1 e2
    subst e1 e2
    have hz : outZ none n = 0 := rfl
    have hlz : outL none n = [] := rfl
    have hbt : btw av 0 (-1) = false := decide_eq_false (by omega)
    rw [hz] at B1 P1 Q1 S1 X1 x0 x1 p0 p1 p2 p3 q0 q1 q2 q3
    rw [hlz] at B1 P1 Q1 S1 X1 x0 x1 p0 p1 p2 p3 q0 q1 q2 q3
    clear HM HF HCL
    rw [hz, hlz]
    clear hz hlz
    rw [List.length_nil] at B1 P1 Q1 S1 X1 x0 x1 p0 p1 p2 p3 q0 q1 q2 q3
    rw [List.length_nil]
    go_wp2_with (first | (go_at_call 68; refine (between_any _ _ _ _).mono ?_; rintro e w' ⟨rfl, rfl⟩))
    exact bodyPost_ret (v := .tuple #[.int .i64 0, .bool false]) (by simp [results, Try.results37, go_sem]) rfl ⟨rfl, B1.out⟩
  | some f =>
    obtain ⟨h1, h2, h3⟩ := HF.out f rfl
    have hz : outZ (some f) n = n := rfl
    have hlz : outL (some f) n = mk n f := rfl
    rw [hz] at B1 P1 Q1 S1 X1 x0 x1 p0 p1 p2 p3 q0 q1 q2 q3
    rw [hlz] at B1 P1 Q1 S1 X1 x0 x1 p0 p1 p2 p3 q0 q1 q2 q3
    rw [hz, hlz]
    obtain ⟨k, hk⟩ : ∃ k : Int, (n : Int) - 1 = k := ⟨_, rfl⟩
    have hwk : IntKind.i64.wrap ((n : Int) - 1) = k := by rw [← hk]; exact IntWalk.i64_in _ (by omega)
    have WA : Hid ((btw av 0 k && offB ac) = wideB n av ac) := mkHid (btw_wide hk)
    have WB : Hid ((btw bv 0 k && offB bc) = wideB n bv bc) := mkHid (btw_wide hk)
    have N1 : Hid (wideB n av ac = false → P = (0, false)) := mkHid fun h => HM.out.trans (mostO_no1 h)
    have N2 : Hid (wideB n bv bc = false → P = (0, false)) := mkHid fun h => HM.out.trans (mostO_no2 h)
    have YY : Hid (wideB n av ac = true → wideB n bv bc = true → P = (f av.toNat bv.toNat + ac - bc, true)) := mkHid fun h h' => HM.out.trans (mostO_yes h h')
    have HLM : Hid (∀ (i j : Nat) (v : World), i < n → j < n → -2000000 ≤ ac ∧ ac ≤ 2000000 → -2000000 ≤ bc ∧ bc ≤ 2000000 → IntsAt v sa (mk n f) → Calls Try.prog 80 #[.agg #[.int .i64 n, .slice sa (mk n f).length sc], .agg #[.int .i64 i, .int .i64 ac], .agg #[.int .i64 j, .int .i64 bc]] v fun e w' => e = .returned (.int .i64 (f i j + ac - bc)) ∧ Below v.heap.size v w') := mkHid fun i j v hi hj ha hb hv => l08Most_any n f h2 h3.bd sa sc i j hi hj ac bc ha hb v hv
    obtain ⟨M, hM⟩ : ∃ M, (mk n f).length = M := ⟨_, rfl⟩
    rw [hM] at HLM B1 P1 Q1 S1 X1 x1 x0 p0 p1 p2 p3 q0 q1 q2 q3
    rw [hM]
    clear hz hlz h1 h2 h3 HM HF HCL hk hM
    have arms : True := trivial
    by_cases hno : wideB n av ac = false ∨ wideB n bv bc = false
    · have e : Hid (P = (0, false)) := mkHid (hno.elim N1.out N2.out)
      obtain ⟨r1, r2⟩ := P
      have e1 := congrArg Prod.fst e.out
      have e2 := congrArg Prod.snd e.out
      simp only at e1 e2
      subst e1 e2
      have HNO : Hid (btw av 0 k = false ∨ btw bv 0 k = false ∨ offB ac = false ∨ offB bc = false) := mkHid (by
        rw [← WA.out, ← WB.out] at hno
        revert hno
        cases btw av 0 k <;> cases btw bv 0 k <;> cases offB ac <;> cases offB bc <;> simp)
      clear hno N1 N2 YY HLM WA WB e
      cases ha : btw av 0 k
      · clear HNO
        go_wp2_with (first | (go_at_call 68; refine (between_any _ _ _ _).mono ?_; rintro e w' ⟨rfl, rfl⟩) | (go_at_call 77; refine (sOff_any _ _).mono ?_; rintro e w' ⟨rfl, rfl⟩))
        exact bodyPost_ret (v := .tuple #[.int .i64 0, .bool false]) (by simp [results, Try.results37, go_sem]) rfl ⟨rfl, B1.out⟩
      · cases hb : btw bv 0 k
        · clear HNO
          go_wp2_with (first | (go_at_call 68; refine (between_any _ _ _ _).mono ?_; rintro e w' ⟨rfl, rfl⟩) | (go_at_call 77; refine (sOff_any _ _).mono ?_; rintro e w' ⟨rfl, rfl⟩))
          exact bodyPost_ret (v := .tuple #[.int .i64 0, .bool false]) (by simp [results, Try.results37, go_sem]) rfl ⟨rfl, B1.out⟩
        · cases hc : offB ac
          · clear HNO
            go_wp2_with (first | (go_at_call 68; refine (between_any _ _ _ _).mono ?_; rintro e w' ⟨rfl, rfl⟩) | (go_at_call 77; refine (sOff_any _ _).mono ?_; rintro e w' ⟨rfl, rfl⟩))
            exact bodyPost_ret (v := .tuple #[.int .i64 0, .bool false]) (by simp [results, Try.results37, go_sem]) rfl ⟨rfl, B1.out⟩
          · have hd : offB bc = false := by have := HNO.out; rw [ha, hb, hc] at this; simpa using this
            clear HNO
            go_wp2_with (first | (go_at_call 68; refine (between_any _ _ _ _).mono ?_; rintro e w' ⟨rfl, rfl⟩) | (go_at_call 77; refine (sOff_any _ _).mono ?_; rintro e w' ⟨rfl, rfl⟩))
            exact bodyPost_ret (v := .tuple #[.int .i64 0, .bool false]) (by simp [results, Try.results37, go_sem]) rfl ⟨rfl, B1.out⟩
    · have hA : wideB n av ac = true := by cases h : wideB n av ac; exact absurd (.inl h) hno; rfl
      have hB : wideB n bv bc = true := by cases h : wideB n bv bc; exact absurd (.inr h) hno; rfl
      have e := YY.out hA hB
      have g1 := WA.out.trans hA
      have g2 := WB.out.trans hB
      rw [Bool.and_eq_true] at g1 g2
      obtain ⟨g1a, g1b⟩ := g1
      obtain ⟨g2a, g2b⟩ := g2
      obtain ⟨⟨i, rfl, hi⟩, ha⟩ := wide_of hA
      obtain ⟨⟨j, rfl, hj⟩, hb⟩ := wide_of hB
      have HL2 := mkHid (fun v hv => HLM.out i j v hi hj ha hb hv)
      rw [Int.toNat_natCast, Int.toNat_natCast] at e
      subst e
      clear hno hA hB N1 N2 YY HLM WA WB hi hj ha hb
      go_wp2_with (first | (go_at_call 68; refine (between_any _ _ _ _).mono ?_; rintro e w' ⟨rfl, rfl⟩) | (go_at_call 77; refine (sOff_any _ _).mono ?_; rintro e w' ⟨rfl, rfl⟩))
      refine (HL2.out _ S1.out).mono ?_
      rintro e w4 ⟨rfl, hb4⟩
      have B4 := mkHid (below_step B1.out hb4)
      clear hb4
      go_wp2
      exact bodyPost_ret (v := .tuple #[.int .i64 (f i j + ac - bc), .bool true]) (by simp [results, Try.results37, go_sem]) rfl ⟨rfl, B4.out⟩
end Go.Proofs.Ytmaejdomlggopaa
