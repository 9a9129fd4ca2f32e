/-
  CONTRACT of slices.Concat at rows of terms: a row of our own that holds all of them.
-/
import Derived.Test.YtbfmljogfljhdaaGreatShelg
import Derived.Test.YtbfmljogfljhdaaGreatMm
import Derived.Deep.AppendLies
import Derived.Deep.Upon
import Derived.OwnWalk
namespace Go.Proofs.YtbfmljogfljhdaaGreat
open Go.RowKit

theorem Tryz.info39 : (Tryz.prog.info? 39).map (fun i => (i.zero, i.size, i.bytes)) = some (some (.agg #[.int .i64 0, .int .i64 0]), 2, 16) := by kernel_rfl
theorem wpList_append_zero {P : Program} (w : World) {ops : Array Oper} {rest : List Oper} {o : Oper} {a : Act} {Q : Exit → Act → World → Prop} (hgd : o.guard = none) (s x : Operand) (t : TypeId)
    (ho : o.op = .call { callee := .builtin .append, args := #[s, x], argTypes := #[t, t] }) (e : TypeId) (i : TypeInfo) (ht : P.underlying t = some (.slice e)) (hi : P.info? e = some i)
    (base : Option Addr) (n cap : Nat) (hle : n ≤ cap) (hs : a.eval s = .slice base n cap) (ax : Option Addr) (c : Nat) (hx : a.eval x = .slice ax 0 c)
    (h : wpList P ops Q rest (a.put o.dst (.slice base n cap)) w) : wpList P ops Q (o :: rest) a w :=
  wpList_plain hgd fun K hK => by
    have hr : (Builtin.append_ #[t, t] o.type #[.slice base n cap, .slice ax 0 c]).run P w = .ok (.slice base n cap) w := by
      cases ax with
      | none => exact run_append_nothing w t t o.type e i ht hi base n cap hle _ (Src.ofNil w ht c)
      | some ad => exact run_append_nothing w t t o.type e i ht hi base n cap hle _ (Src.ofSlice w ht ad 0 c [] (by simp) (fun j u hu => by simp at hu) (fun u hu => by simp at hu))
    unfold Oper.wp execOp
    simp only [ho, resolve, invoke, builtin, Sem.run_bind, Sem.run_pure, Result.andThen_ok, List.map_toArray, List.map_cons, List.map_nil, hs, hx, hr]
    exact hK _ _ h
/-- slices.Grow of no slice. -/
theorem grow_any (n : Nat) (w : World) (hn : n ≤ 1048576) : Calls Tryz.prog 139 #[.slice none 0 0, .int .i64 n] w fun e w' => Below w.heap.size w w' ∧ ∃ ao cap, e = .returned (.slice ao 0 cap) ∧ Own eY 39 w' w.heap.size (.slice ao 0 cap) [] := by
  rcases Nat.eq_zero_or_pos n with rfl | hp
  · have h : Calls Tryz.prog 139 #[.slice none 0 0, .int .i64 ((0 : Nat) : Int)] w fun e w' => e = .returned (.slice none 0 0) ∧ w' = w := Any8.slices_Grow_room Tryz.growY none 0 0 0 w (by omega) (by omega) (by omega) (by omega)
    refine h.mono ?_
    rintro e w' ⟨rfl, rfl⟩
    exact ⟨Below.refl _ _, none, 0, rfl, Own.nil _ _ _ _⟩
  · obtain ⟨i0, hi, hz⟩ := Option.map_eq_some_iff.1 Tryz.info39
    simp only [Prod.mk.injEq] at hz
    obtain ⟨hz0, hz1, hz2⟩ := hz
    have h : Calls Tryz.prog 139 #[.slice none 0 0, .int .i64 (n : Int)] w fun e w' => e = .returned (.slice (some ⟨w.heap.size, 0, none⟩) 0 (grownCap w (0 + n) 0 39)) ∧ w' = w.drew.alloc (.cells (([] : List Value).toArray ++ Builtin.zeroCells (Value.agg #[.int .i64 0, .int .i64 0]).cells (0 + n - 0) ++ Builtin.zeroCells (Value.agg #[.int .i64 0, .int .i64 0]).cells (grownCap w (0 + n) 0 39 - (0 + n))) 39) :=
      Any8.slices_Grow_grow Tryz.growY i0 _ hi hz0 (by omega) none 0 0 n [] w (by omega) (by omega) (by rw [hz2]; omega) (by omega) (by simp) (fun _ => rfl) (fun a h => by cases h)
    refine h.mono ?_
    rintro e w' ⟨rfl, rfl⟩
    have hge := grownCap_ge w (0 + n) 0 39
    have hle := grownCap_le_maxLen w (0 + n) 0 39 (by unfold maxLen; omega)
    refine ⟨(Below.refl _ _).drew.alloc (Nat.le_refl _) _, _, _, rfl, by simp [El.flat], .inr ⟨w.heap.size, _, _, rfl, Nat.le_refl _, heap_alloc_new w.drew _, Nat.zero_le _, hle, ?_, by simp [El.flat]⟩⟩
    simp only [Array.size_append, size_zeroCells]
    show 0 + (0 + n - 0) * 2 + (grownCap w (0 + n) 0 39 - (0 + n)) * 2 = grownCap w (0 + n) 0 39 * 2
    omega
set_option maxRecDepth 100000 in
set_option maxHeartbeats 3200000 in
theorem concat_any (L : List (List Y)) (a : Option Addr) (c : Nat) (w : World) (hn : L.length ≤ 1048576) (ht : L.flatten.length ≤ 1048576) (hl : BndsAt w a L) :
    Calls Tryz.prog 123 #[.slice a L.length c] w fun e w' => Below w.heap.size w w' ∧ ∃ ao cap, e = .returned (.slice ao L.flatten.length cap) ∧ Own eY 39 w' w.heap.size (.slice ao L.flatten.length cap) L.flatten := by
  obtain ⟨F, hF⟩ : ∃ F, L.flatten = F := ⟨_, rfl⟩
  have HF := mkHid hF
  rw [hF] at ht ⊢
  clear hF
  obtain ⟨i0, hi, hz⟩ := Option.map_eq_some_iff.1 Tryz.info39
  simp only [Prod.mk.injEq] at hz
  have HI := mkHid (And.intro hi hz)
  have HL := mkHid hl
  clear hi hz hl
  go_enter Tryz.func123, Tryz.ntmps123
  go_wp2
  go_loopg [3, 11, 5] L.length (fun g s3 s11 s5 wr => ∃ (k : Nat), k ≤ L.length ∧ s11 = .int .i64 k ∧ s3 = .int .i64 ((L.take k).flatten.length : Nat) ∧ L.length - k ≤ g ∧ wr = w)
  case atStart => exact ⟨0, Nat.zero_le _, rfl, rfl, by omega, rfl⟩
  case round =>
    obtain ⟨k, hk, rfl, rfl, hgk, rfl⟩ := hrel
    obtain ⟨tt, htt⟩ : ∃ tt, (L.take k).flatten.length = tt := ⟨_, rfl⟩
    have HTT := mkHid htt
    have hle1 : tt ≤ 1048576 := by have h1 := tot_take L k; rw [HF.out] at h1; omega
    rw [htt]
    clear htt
    by_cases hlt : k < L.length
    · obtain ⟨l, hx⟩ : ∃ x, L[k]? = some x := ⟨_, List.getElem?_eq_getElem hlt⟩
      obtain ⟨b, off, rfl, _, hq⟩ := HL.out.cons (by omega)
      obtain ⟨ao, cp, c0, _⟩ := hq k l hx
      have HS := mkHid (tot_succ hx)
      have hle2 : tt + l.length ≤ 1048576 := by have h1 := tot_take L (k + 1); rw [HF.out, HS.out, HTT.out] at h1; omega
      clear hq hx
      have i0' : (0 : Int) ≤ (k : Int) := by omega
      have i1 : (k : Int) < (L.length : Int) := by omega
      have i2 : ¬ ((tt : Int) + (l.length : Int) < 0) := by omega
      go_wp2
      go_roundg (L.length - (k + 1))
      case measure => omega
      case rel => exact ⟨k + 1, by omega, by go_num, by rw [HS.out, HTT.out]; simp, Nat.le_refl _, by trivial⟩
    · have e : k = L.length := by omega
      have HT2 : Hid (tt = F.length) := mkHid (by rw [← HTT.out, e, List.take_length, HF.out])
      have i1 : ¬ (k : Int) < (L.length : Int) := by omega
      clear e
      go_wp2_with fail
      refine (grow_any tt wr hle1).mono ?_
      rintro e w1 ⟨hb, ao, cap, rfl, ho⟩
      have HB1 := mkHid hb
      have HO1 := mkHid ho
      clear hb ho
      go_wp2
      obtain ⟨wo, hwo⟩ : ∃ x, x = wr := ⟨_, rfl⟩
      subst hwo
      go_loopg [6, 27, 8] L.length (fun g s6 s27 s8 wr => ∃ (q : Nat) (a6 : Option Addr) (c6 : Nat), q ≤ L.length ∧ s27 = .int .i64 q ∧ s6 = .slice a6 (L.take q).flatten.length c6 ∧ L.length - q ≤ g ∧ Own eY 39 wr wo.heap.size (.slice a6 (L.take q).flatten.length c6) (L.take q).flatten ∧ Below wo.heap.size wo wr)
      case atStart => exact ⟨0, ao, cap, Nat.zero_le _, rfl, rfl, by omega, HO1.out, HB1.out⟩
      case round =>
        obtain ⟨q, a6, c6, hq0, rfl, rfl, hgq, hown, hbel⟩ := hrel
        have HO := mkHid hown
        have HB := mkHid hbel
        clear HB1 HO1
        by_cases hlt2 : q < L.length
        · obtain ⟨l, hx⟩ : ∃ x, L[q]? = some x := ⟨_, List.getElem?_eq_getElem hlt2⟩
          obtain ⟨b, off, rfl, _, hq⟩ := (HL.out.below hbel).cons (by omega)
          obtain ⟨al, cp, c0, hat⟩ := hq q l hx
          have HX := mkHid hx
          have HS : Hid ((L.take (q + 1)).flatten = (L.take q).flatten ++ l) := mkHid (by rw [List.take_add_one, hx]; simp)
          have HLE : Hid ((L.take (q + 1)).flatten.length ≤ 1048576) := mkHid (by have h1 := tot_take L (q + 1); rw [HF.out] at h1; omega)
          have HAT := mkHid hat
          clear hq hx hbel hat
          have j0 : (0 : Int) ≤ (q : Int) := by omega
          have j1 : (q : Int) < (L.length : Int) := by omega
          by_cases hne : l.length = 0
          · obtain ⟨ao', cap', e, hcap, _⟩ := hown.form2
            simp only [Value.slice.injEq] at e
            obtain ⟨rfl, _, rfl⟩ := e
            have HL0 := mkHid (List.length_eq_zero_iff.1 hne)
            rw [hne] at c0
            obtain ⟨m, hm⟩ : ∃ m, (L.take q).flatten.length = m := ⟨_, rfl⟩
            have HM := mkHid hm
            rw [hm] at hcap
            rw [hm]
            clear hown hne hm
            go_wp2_with (at_builtin; refine wpList_append_zero _ rfl _ _ 34 rfl 39 i0 Tryz.underlying34 HI.out.1 _ _ _ hcap rfl _ _ rfl ?_)
            have HS2 : Hid ((L.take (q + 1)).flatten = (L.take q).flatten) := mkHid (by rw [HS.out, HL0.out, List.append_nil])
            go_wp2
            go_roundg (L.length - (q + 1))
            case measure => omega
            case rel => exact ⟨q + 1, a6, c6, by omega, by go_num, by rw [HS2.out, HM.out], Nat.le_refl _, by rw [HS2.out]; exact HO.out, HB.out⟩
          · obtain ⟨bl, ol, rfl, _, hqc⟩ := HAT.out.cons (by omega)
            have HQC := mkHid hqc
            obtain ⟨m, hm⟩ : ∃ m, (L.take q).flatten.length = m := ⟨_, rfl⟩
            have HM := mkHid hm
            have hml : m + l.length ≤ 1048576 := by have := HLE.out; rw [HS.out, List.length_append] at this; omega
            rw [hm] at HO
            rw [hm]
            clear hm hown hqc
            go_wp2_with (at_builtin; refine wpList_append_lies _ rfl _ _ 34 rfl wo.heap.size 39 i0 (.agg #[.int .i64 0, .int .i64 0]) 2 16 Tryz.underlying34 HI.out.1 HI.out.2.1 HI.out.2.2.1 HI.out.2.2.2 rfl (by decide) _ m (eY.flat (L.take q).flatten) rfl ?c0 ⟨bl, ol, none⟩ l.length cp (eY.flat l) rfl (eY.flat_len l) ?c1 ?c2 (by omega) ?c3 ?c4 ?c5 wr.heap.size rfl ?_)
            case c0 => have h := HO.out; unfold Own at h; rw [HM.out] at h; exact h
            case c1 =>
              intro j u hu
              have hj : j < l.length * 2 := by have := (List.getElem?_eq_some_iff.1 hu).1; rw [El.flat_len] at this; exact this
              obtain ⟨x, hx⟩ : ∃ x, l[j / 2]? = some x := ⟨_, List.getElem?_eq_getElem (by omega)⟩
              have e : j / 2 * eY.k + j % 2 = j := by show j / 2 * 2 + j % 2 = j; omega
              have h1 := eY.flat_get hx (j := j % 2) (by show j % 2 < 2; omega)
              rw [e, hu] at h1
              have h2 := HQC.out (j / 2) x hx (j % 2) u h1.symm
              rw [Nat.add_assoc, e] at h2
              rw [Addr.add_lit]
              exact h2
            case c2 =>
              intro u hu
              simp only [El.flat, List.mem_flatMap] at hu
              obtain ⟨x, _, hu⟩ := hu
              simp [eY] at hu
              rcases hu with rfl | rfl <;> rfl
            case c3 => unfold maxLen; omega
            case c4 => omega
            case c5 => have := HB.out.size; omega
            intro g' cap' w3 hown' hgrow _ _
            have HO2 : Hid (Own eY 39 w3 wo.heap.size (.slice (some ⟨g', 0, none⟩) (L.take (q + 1)).flatten.length cap') (L.take (q + 1)).flatten) := mkHid (by
              unfold Own
              rw [HS.out, List.length_append, HM.out, El.flat_app]
              exact hown')
            have HB2 := mkHid (HB.out.grown hgrow HB.out.size (fun k hk => (HO.out.lt hk).1))
            have HSM : Hid ((L.take (q + 1)).flatten.length = m + l.length) := mkHid (by rw [HS.out, List.length_append, HM.out])
            clear hown' hgrow
            go_wp2
            go_roundg (L.length - (q + 1))
            case measure => omega
            case rel => exact ⟨q + 1, some ⟨g', 0, none⟩, cap', by omega, by go_num, by rw [HSM.out], Nat.le_refl _, HO2.out, HB2.out⟩
        · have e : q = L.length := by omega
          have HO2 : Hid (Own eY 39 wr wo.heap.size (.slice a6 F.length c6) F) := mkHid (by have h := HO.out; rw [e, List.take_length, HF.out] at h; exact h)
          have HLn : Hid ((L.take q).flatten.length = F.length) := mkHid (by rw [e, List.take_length, HF.out])
          have j1 : ¬ (q : Int) < (L.length : Int) := by omega
          rw [HLn.out]
          clear e hbel hown HO
          go_wp2
          go_ret
          exact ⟨HB.out, a6, c6, rfl, HO2.out⟩
end Go.Proofs.YtbfmljogfljhdaaGreat
