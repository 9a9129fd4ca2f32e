/-
  CONTRACT of slices.Concat at rows of terms: a row of our own that holds all of them.
  CONTRACTS of setOf at terms and of termsOf: the set of all terms of some rows, of our own.
-/
import Derived.Test.YtihpajiololfoaaGreatCc09
import Derived.Test.YtihpajiololfoaaGreatCc03
import Derived.Deep.AppendLies
import Derived.Deep.Upon
import Derived.OwnWalk
import Derived.Test.YtihpajiololfoaaGreatCc04
import Derived.Laws.EntriesVeiled
namespace Go.Proofs.YtihpajiololfoaaGreat
open Go.RowKit

theorem Tryz.info49c : (Tryz.prog.info? 49).map (fun i => (i.zero, i.size, i.bytes)) = some (some (.agg #[.int .i64 0, .int .i64 0]), 2, 16) := by kernel_rfl
theorem wpList_append_zero {P : Program} (w : World) {ops : Array Oper} {rest : List Oper} {o : Oper} {a : Act} {Q : Exit → Act → World → Prop} (hgd : o.guard = none) (s x : Operand) (t : TypeId)
  (ho : o.op = .call { callee := .builtin .append, args := #[s, x], argTypes := #[t, t] }) (e : TypeId) (i : TypeInfo) (ht : P.underlying t = some (.slice e)) (hi : P.info? e = some i)
  (base : Option Addr) (n cap : Nat) (hle : n ≤ cap) (hs : a.eval s = .slice base n cap) (ax : Option Addr) (c : Nat) (hx : a.eval x = .slice ax 0 c)
  (h : wpList P ops Q rest (a.put o.dst (.slice base n cap)) w) : wpList P ops Q (o :: rest) a w :=
 wpList_plain hgd fun K hK => by
  have hr : (Builtin.append_ #[t, t] o.type #[.slice base n cap, .slice ax 0 c]).run P w = .ok (.slice base n cap) w := by
   cases ax with
   | none => exact run_append_nothing w t t o.type e i ht hi base n cap hle _ (Src.ofNil w ht c)
   | some ad => exact run_append_nothing w t t o.type e i ht hi base n cap hle _ (Src.ofSlice w ht ad 0 c [] (by simp) (fun j u hu => by simp at hu) (fun u hu => by simp at hu))
  unfold Oper.wp execOp
  simp only [ho, resolve, invoke, builtin, Sem.run_bind, Sem.run_pure, Result.andThen_ok, List.map_toArray, List.map_cons, List.map_nil, hs, hx, hr]
  exact hK _ _ h
/-- slices.Grow of no slice. -/
theorem grow_any (n : Nat) (w : World) (hn : n ≤ 1048576) : Calls Tryz.prog 162 #[.slice none 0 0, .int .i64 n] w fun e w' => Below w.heap.size w w' ∧ ∃ ao cap, e = .returned (.slice ao 0 cap) ∧ Own eY 49 w' w.heap.size (.slice ao 0 cap) [] := by
 rcases Nat.eq_zero_or_pos n with rfl | hp
 ·have h : Calls Tryz.prog 162 #[.slice none 0 0, .int .i64 ((0 : Nat) : Int)] w fun e w' => e = .returned (.slice none 0 0) ∧ w' = w := Any8.slices_Grow_room Tryz.growY none 0 0 0 w (by omega) (by omega) (by omega) (by omega)
  refine h.mono ?_
  rintro e w' ⟨rfl, rfl⟩
  exact ⟨Below.refl _ _, none, 0, rfl, Own.nil _ _ _ _⟩
 ·obtain ⟨i0, hi, hz⟩ := Option.map_eq_some_iff.1 Tryz.info49c
  simp only [Prod.mk.injEq] at hz
  obtain ⟨hz0, hz1, hz2⟩ := hz
  have h : Calls Tryz.prog 162 #[.slice none 0 0, .int .i64 (n : Int)] w fun e w' => e = .returned (.slice (some ⟨w.heap.size, 0, none⟩) 0 (grownCap w (0 + n) 0 49)) ∧ w' = w.drew.alloc (.cells (([] : List Value).toArray ++ Builtin.zeroCells (Value.agg #[.int .i64 0, .int .i64 0]).cells (0 + n - 0) ++ Builtin.zeroCells (Value.agg #[.int .i64 0, .int .i64 0]).cells (grownCap w (0 + n) 0 49 - (0 + n))) 49) :=
   Any8.slices_Grow_grow Tryz.growY i0 _ hi hz0 (by omega) none 0 0 n [] w (by omega) (by omega) (by rw [hz2]; omega) (by omega) (by simp) (fun _ => rfl) (fun a h => by cases h)
  refine h.mono ?_
  rintro e w' ⟨rfl, rfl⟩
  have hge := grownCap_ge w (0 + n) 0 49
  have hle := grownCap_le_maxLen w (0 + n) 0 49 (by unfold maxLen; omega)
  refine ⟨(Below.refl _ _).drew.alloc (Nat.le_refl _) _, _, _, rfl, by simp [El.flat], .inr ⟨w.heap.size, _, _, rfl, Nat.le_refl _, heap_alloc_new w.drew _, Nat.zero_le _, hle, ?_, by simp [El.flat]⟩⟩
  simp only [Array.size_append, size_zeroCells]
  show 0 + (0 + n - 0) * 2 + (grownCap w (0 + n) 0 49 - (0 + n)) * 2 = grownCap w (0 + n) 0 49 * 2
  omega
set_option maxRecDepth 100000 in
set_option maxHeartbeats 3200000 in
theorem concat_any (L : List (List Y)) (a : Option Addr) (c : Nat) (w : World) (hn : L.length ≤ 1048576) (ht : L.flatten.length ≤ 1048576) (hl : BndsAt w a L) :
  Calls Tryz.prog 152 #[.slice a L.length c] w fun e w' => Below w.heap.size w w' ∧ ∃ ao cap, e = .returned (.slice ao L.flatten.length cap) ∧ Own eY 49 w' w.heap.size (.slice ao L.flatten.length cap) L.flatten := by
 obtain ⟨F, hF⟩ : ∃ F, L.flatten = F := ⟨_, rfl⟩
 have HF := mkHid hF
 rw [hF] at ht ⊢
 clear hF
 obtain ⟨i0, hi, hz⟩ := Option.map_eq_some_iff.1 Tryz.info49c
 simp only [Prod.mk.injEq] at hz
 have HI := mkHid (And.intro hi hz)
 have HL := mkHid hl
 clear hi hz hl
 go_enter Tryz.func152, Tryz.ntmps152
 go_wp2
 go_loopg [3, 11, 5] L.length (fun g s3 s11 s5 wr => ∃ (k : Nat), k ≤ L.length ∧ s11 = .int .i64 k ∧ s3 = .int .i64 ((L.take k).flatten.length : Nat) ∧ L.length - k ≤ g ∧ wr = w)
 case atStart => exact ⟨0, Nat.zero_le _, rfl, rfl, by omega, rfl⟩
 case round =>
  obtain ⟨k, hk, rfl, rfl, hgk, rfl⟩ := hrel
  obtain ⟨tt, htt⟩ : ∃ tt, (L.take k).flatten.length = tt := ⟨_, rfl⟩
  have HTT := mkHid htt
  have hle1 : tt ≤ 1048576 := by have h1 := tot_take L k; rw [HF.out] at h1; omega
  rw [htt]
  clear htt
  by_cases hlt : k < L.length
  ·obtain ⟨l, hx⟩ : ∃ x, L[k]? = some x := ⟨_, List.getElem?_eq_getElem hlt⟩
   obtain ⟨b, off, rfl, _, hq⟩ := HL.out.cons (by omega)
   obtain ⟨ao, cp, c0, _⟩ := hq k l hx
   have HS := mkHid (tot_succ hx)
   have hle2 : tt + l.length ≤ 1048576 := by have h1 := tot_take L (k + 1); rw [HF.out, HS.out, HTT.out] at h1; omega
   clear hq hx
   have i0' : (0 : Int) ≤ (k : Int) := by omega
   have i1 : (k : Int) < (L.length : Int) := by omega
   have i2 : ¬ ((tt : Int) + (l.length : Int) < 0) := by omega
   go_wp2
   go_roundg (L.length - (k + 1))
   case measure => omega
   case rel => exact ⟨k + 1, by omega, by go_num, by rw [HS.out, HTT.out]; simp, Nat.le_refl _, by trivial⟩
  ·have e : k = L.length := by omega
   have HT2 : Hid (tt = F.length) := mkHid (by rw [← HTT.out, e, List.take_length, HF.out])
   have i1 : ¬ (k : Int) < (L.length : Int) := by omega
   clear e
   go_wp2_with fail
   refine (grow_any tt wr hle1).mono ?_
   rintro e w1 ⟨hb, ao, cap, rfl, ho⟩
   have HB1 := mkHid hb
   have HO1 := mkHid ho
   clear hb ho
   go_wp2
   obtain ⟨wo, hwo⟩ : ∃ x, x = wr := ⟨_, rfl⟩
   subst hwo
   go_loopg [6, 27, 8] L.length (fun g s6 s27 s8 wr => ∃ (q : Nat) (a6 : Option Addr) (c6 : Nat), q ≤ L.length ∧ s27 = .int .i64 q ∧ s6 = .slice a6 (L.take q).flatten.length c6 ∧ L.length - q ≤ g ∧ Own eY 49 wr wo.heap.size (.slice a6 (L.take q).flatten.length c6) (L.take q).flatten ∧ Below wo.heap.size wo wr)
   case atStart => exact ⟨0, ao, cap, Nat.zero_le _, rfl, rfl, by omega, HO1.out, HB1.out⟩
   case round =>
    obtain ⟨q, a6, c6, hq0, rfl, rfl, hgq, hown, hbel⟩ := hrel
    have HO := mkHid hown
    have HB := mkHid hbel
    clear HB1 HO1
    by_cases hlt2 : q < L.length
    ·obtain ⟨l, hx⟩ : ∃ x, L[q]? = some x := ⟨_, List.getElem?_eq_getElem hlt2⟩
     obtain ⟨b, off, rfl, _, hq⟩ := (HL.out.below hbel).cons (by omega)
     obtain ⟨al, cp, c0, hat⟩ := hq q l hx
     have HX := mkHid hx
     have HS : Hid ((L.take (q + 1)).flatten = (L.take q).flatten ++ l) := mkHid (by rw [List.take_add_one, hx]; simp)
     have HLE : Hid ((L.take (q + 1)).flatten.length ≤ 1048576) := mkHid (by have h1 := tot_take L (q + 1); rw [HF.out] at h1; omega)
     have HAT := mkHid hat
     clear hq hx hbel hat
     have j0 : (0 : Int) ≤ (q : Int) := by omega
     have j1 : (q : Int) < (L.length : Int) := by omega
     by_cases hne : l.length = 0
     ·obtain ⟨ao', cap', e, hcap, _⟩ := hown.form2
      simp only [Value.slice.injEq] at e
      obtain ⟨rfl, _, rfl⟩ := e
      have HL0 := mkHid (List.length_eq_zero_iff.1 hne)
      rw [hne] at c0
      obtain ⟨m, hm⟩ : ∃ m, (L.take q).flatten.length = m := ⟨_, rfl⟩
      have HM := mkHid hm
      rw [hm] at hcap
      rw [hm]
      clear hown hne hm
      go_wp2_with (at_builtin; refine wpList_append_zero _ rfl _ _ 113 rfl 49 i0 Tryz.underlying113 HI.out.1 _ _ _ hcap rfl _ _ rfl ?_)
      have HS2 : Hid ((L.take (q + 1)).flatten = (L.take q).flatten) := mkHid (by rw [HS.out, HL0.out, List.append_nil])
      go_wp2
      go_roundg (L.length - (q + 1))
      case measure => omega
      case rel => exact ⟨q + 1, a6, c6, by omega, by go_num, by rw [HS2.out, HM.out], Nat.le_refl _, by rw [HS2.out]; exact HO.out, HB.out⟩
     ·obtain ⟨bl, ol, rfl, _, hqc⟩ := HAT.out.cons (by omega)
      have HQC := mkHid hqc
      obtain ⟨m, hm⟩ : ∃ m, (L.take q).flatten.length = m := ⟨_, rfl⟩
      have HM := mkHid hm
      have hml : m + l.length ≤ 1048576 := by have := HLE.out; rw [HS.out, List.length_append] at this; omega
      rw [hm] at HO
      rw [hm]
      clear hm hown hqc
      go_wp2_with (at_builtin; refine wpList_append_lies _ rfl _ _ 113 rfl wo.heap.size 49 i0 (.agg #[.int .i64 0, .int .i64 0]) 2 16 Tryz.underlying113 HI.out.1 HI.out.2.1 HI.out.2.2.1 HI.out.2.2.2 rfl (by decide) _ m (eY.flat (L.take q).flatten) rfl ?c0 ⟨bl, ol, none⟩ l.length cp (eY.flat l) rfl (eY.flat_len l) ?c1 ?c2 (by omega) ?c3 ?c4 ?c5 wr.heap.size rfl ?_)
      case c0 => have h := HO.out; unfold Own at h; rw [HM.out] at h; exact h
      case c1 =>
       intro j u hu
       have hj : j < l.length * 2 := by have := (List.getElem?_eq_some_iff.1 hu).1; rw [El.flat_len] at this; exact this
       obtain ⟨x, hx⟩ : ∃ x, l[j / 2]? = some x := ⟨_, List.getElem?_eq_getElem (by omega)⟩
       have e : j / 2 * eY.k + j % 2 = j := by show j / 2 * 2 + j % 2 = j; omega
       have h1 := eY.flat_get hx (j := j % 2) (by show j % 2 < 2; omega)
       rw [e, hu] at h1
       have h2 := HQC.out (j / 2) x hx (j % 2) u h1.symm
       rw [Nat.add_assoc, e] at h2
       rw [Addr.add_lit]
       exact h2
      case c2 =>
       intro u hu
       simp only [El.flat, List.mem_flatMap] at hu
       obtain ⟨x, _, hu⟩ := hu
       simp [eY] at hu
       rcases hu with rfl | rfl <;> rfl
      case c3 => unfold maxLen; omega
      case c4 => omega
      case c5 => have := HB.out.size; omega
      intro g' cap' w3 hown' hgrow _ _
      have HO2 : Hid (Own eY 49 w3 wo.heap.size (.slice (some ⟨g', 0, none⟩) (L.take (q + 1)).flatten.length cap') (L.take (q + 1)).flatten) := mkHid (by
       unfold Own
       rw [HS.out, List.length_append, HM.out, El.flat_app]
       exact hown')
      have HB2 := mkHid (HB.out.grown hgrow HB.out.size (fun k hk => (HO.out.lt hk).1))
      have HSM : Hid ((L.take (q + 1)).flatten.length = m + l.length) := mkHid (by rw [HS.out, List.length_append, HM.out])
      clear hown' hgrow
      go_wp2
      go_roundg (L.length - (q + 1))
      case measure => omega
      case rel => exact ⟨q + 1, some ⟨g', 0, none⟩, cap', by omega, by go_num, by rw [HSM.out], Nat.le_refl _, HO2.out, HB2.out⟩
    ·have e : q = L.length := by omega
     have HO2 : Hid (Own eY 49 wr wo.heap.size (.slice a6 F.length c6) F) := mkHid (by have h := HO.out; rw [e, List.take_length, HF.out] at h; exact h)
     have HLn : Hid ((L.take q).flatten.length = F.length) := mkHid (by rw [e, List.take_length, HF.out])
     have j1 : ¬ (q : Int) < (L.length : Int) := by omega
     rw [HLn.out]
     clear e hbel hown HO
     go_wp2
     go_ret
     exact ⟨HB.out, a6, c6, rfl, HO2.out⟩
end Go.Proofs.YtihpajiololfoaaGreat
namespace Go.Proofs.YtihpajiololfoaaGreat
open Go.RowKit

theorem sort_none (p : Option Addr) (cap : Nat) (w : World) : Calls Tryz.prog 153 #[.slice p 0 cap, .func (.func 132) #[] #[]] w fun e w' => e = .returned (.tuple #[]) ∧ w' = w := AnyF.slices_SortFunc_none Tryz.sortY p cap _ w
set_option maxRecDepth 100000 in
theorem compact_none (p : Option Addr) (cap : Nat) (f : Value) (w : World) : Calls Tryz.prog 155 #[.slice p 0 cap, f] w fun e w' => e = .returned (.slice p 0 cap) ∧ w' = w := by
 go_enter Tryz.func155, Tryz.ntmps155
 go_wp2
 go_ret
 exact ⟨rfl, rfl⟩
/-- slices.SortFunc and CompactFunc at whatever row of our own. -/
theorem sort_any (l : List Y) (ao : Option Addr) (cap base : Nat) (w : World) (hn : l.length ≤ 1048576) (ho : Own eY 49 w base (.slice ao l.length cap) l) :
  Calls Tryz.prog 153 #[.slice ao l.length cap, .func (.func 132) #[] #[]] w fun e w' => e = .returned (.tuple #[]) ∧ ∃ l' : List Y, l'.Perm l ∧ l'.length = l.length ∧ l'.Pairwise (fun a b => ¬ LtY b a) ∧ Own eY 49 w' base (.slice ao l.length cap) l' ∧ w.grownBy w' (Value.ownBlock (.slice ao l.length cap)) := by
 rcases ho.2 with ⟨e, h⟩ | ⟨g, cap', cur, e, _⟩
 ·have hl := List.length_eq_zero_iff.1 h
  subst hl
  refine (sort_none ao cap w).mono ?_
  rintro e w' ⟨rfl, rfl⟩
  exact ⟨rfl, [], List.Perm.refl _, rfl, List.Pairwise.nil, ho, World.grownBy.refl _ _⟩
 ·simp at e
  obtain ⟨rfl, rfl⟩ := e
  refine (sort_own l g cap base w hn ho).mono ?_
  rintro e w' ⟨rfl, l', h1, h2, h3, h4⟩
  exact ⟨rfl, l', h1, h1.length_eq, h2, h3, h4⟩
theorem compact_any (l : List Y) (ao : Option Addr) (cap base bx : Nat) (w : World) (hn : l.length ≤ 1048576) (hs : l.Pairwise fun a b => ¬ LtY b a) (ho : Own eY 49 w base (.slice ao l.length cap) l)
  (hbx : w.cell? ⟨bx, 0, none⟩ = some (.func (.func 132) #[] #[])) (hbg : bx < base) :
  Calls Tryz.prog 155 #[.slice ao l.length cap, .func (.func 154) #[] #[.pointer (some ⟨bx, 0, none⟩)]] w fun e w' => w.grownBy w' (Value.ownBlock (.slice ao l.length cap)) ∧ ∃ (m : List Y), e = .returned (.slice ao m.length cap) ∧ IsSet m l ∧ Own eY 49 w' base (.slice ao m.length cap) m := by
 rcases ho.2 with ⟨e, h⟩ | ⟨g, cap', cur, e, hb, _, h1, h2, _⟩
 ·have hl := List.length_eq_zero_iff.1 h
  subst hl
  refine (compact_none ao cap _ w).mono ?_
  rintro e w' ⟨rfl, rfl⟩
  exact ⟨World.grownBy.refl _ _, [], rfl, IsSet.nil, ho⟩
 ·simp at e
  obtain ⟨rfl, rfl⟩ := e
  exact compact_own l g cap base bx w hn hs ho h1 h2 hbx (by omega)
theorem IsSet.perm {m l l' : List Y} (h : IsSet m l') (hp : l'.Perm l) : IsSet m l := ⟨h.asc, fun p => (h.mem p).trans hp.mem_iff⟩
set_option maxRecDepth 100000 in
set_option maxHeartbeats 3200000 in
theorem setOf_any (L : List (List Y)) (a : Option Addr) (c : Nat) (w : World) (hn : L.length ≤ 1048576) (ht : L.flatten.length ≤ 1048576) (hl : BndsAt w a L) :
  Calls Tryz.prog 131 #[.func (.func 132) #[] #[], .slice a L.length c] w fun e w' => Below w.heap.size w w' ∧ ∃ (m : List Y) (ao : Option Addr) (cap : Nat), e = .returned (.agg #[.slice ao m.length cap, .func (.func 132) #[] #[]]) ∧ IsSet m L.flatten ∧ Own eY 49 w' w.heap.size (.slice ao m.length cap) m := by
 obtain ⟨w0, hw0⟩ : ∃ x : World, (w.alloc (.cells #[.func (.func 132) #[] #[]] 125)).alloc (.cells #[.slice none 0 0, .nilFunc] 127) = x := ⟨_, rfl⟩
 obtain ⟨X, hX⟩ : ∃ x, w.heap.size = x := ⟨_, rfl⟩
 have HX := mkHid hX
 have HB : Hid (Below X w w0) := mkHid (by rw [← hw0, ← hX]; exact bl_alloc (bl_alloc (Below.refl _ _) _) _)
 have q0 : w0.cell? ⟨X, 0, none⟩ = some (.func (.func 132) #[] #[]) := by rw [← hw0, ← hX]; simp [go_sem]
 have r0 : w0.cell? ⟨X + 1, 0, none⟩ = some (.slice none 0 0) := by rw [← hw0, ← hX]; simp [go_sem]
 have r1 : w0.cell? ⟨X + 1, 1, none⟩ = some .nilFunc := by rw [← hw0, ← hX]; simp [go_sem]
 have t0 : w0.frozen? ⟨X + 1, 0, none⟩ = false := by rw [← hw0, ← hX]; simp [go_sem]
 have t1 : w0.frozen? ⟨X + 1, 1, none⟩ = false := by rw [← hw0, ← hX]; simp [go_sem]
 have HS0 : Hid (w0.heap.size = X + 2) := mkHid (by rw [← hw0, ← hX]; simp)
 have HC : Hid (w0.cell? ⟨X, 0, none⟩ = some (.func (.func 132) #[] #[]) ∧ w0.cell? ⟨X + 1, 0, none⟩ = some (.slice none 0 0) ∧ w0.cell? ⟨X + 1, 1, none⟩ = some .nilFunc ∧ w0.frozen? ⟨X + 1, 0, none⟩ = false ∧ w0.frozen? ⟨X + 1, 1, none⟩ = false) := mkHid ⟨q0, r0, r1, t0, t1⟩
 have HL := mkHid (hl.below (by rw [hX]; exact HB.out))
 clear hl q0 r0 r1 t0 t1
 go_enter Tryz.func131, Tryz.ntmps131
 go_wp2_with fail
 clear hw0 hX
 refine (concat_any L a c _ hn ht HL.out).mono ?_
 rintro e w1 ⟨hb, ao, cap, rfl, ho⟩
 obtain ⟨F, hF⟩ : ∃ F, L.flatten = F := ⟨_, rfl⟩
 rw [hF] at ho ht ⊢
 have HF := mkHid hF
 have HO := mkHid ho
 have HB1 : Hid (Below X w w1) := mkHid (HB.out.trans (hb.mono (by have := HS0.out; omega)))
 have HSZ : Hid (X + 2 ≤ w1.heap.size) := mkHid (by have := hb.size; have := HS0.out; omega)
 have HC1 : Hid (w1.cell? ⟨X, 0, none⟩ = some (.func (.func 132) #[] #[]) ∧ w1.cell? ⟨X + 1, 0, none⟩ = some (.slice none 0 0) ∧ w1.cell? ⟨X + 1, 1, none⟩ = some .nilFunc ∧ w1.frozen? ⟨X + 1, 0, none⟩ = false ∧ w1.frozen? ⟨X + 1, 1, none⟩ = false) := mkHid (by
  obtain ⟨hc, hf⟩ := bcell hb
  have h1 : X < w0.heap.size := by have := HS0.out; omega
  have h2 : X + 1 < w0.heap.size := by have := HS0.out; omega
  exact ⟨(hc _ _ h1).trans HC.out.1, (hc _ _ h2).trans HC.out.2.1, (hc _ _ h2).trans HC.out.2.2.1, (hf _ _ h2).trans HC.out.2.2.2.1, (hf _ _ h2).trans HC.out.2.2.2.2⟩)
 clear hb ho hF HC HL HB
 have q0 := HC1.out.1
 go_wp2_with fail
 clear q0
 refine (sort_any F ao cap _ _ ht HO.out).mono ?_
 rintro e w2 ⟨rfl, l', hperm, hlen, hsort, ho, hg⟩
 have far : ∀ {wa wb : World} {k : Nat} {v : Value} {ls : List Y}, Own eY 49 wa w0.heap.size v ls → wa.grownBy wb v.ownBlock → k < X + 2 → k < wa.heap.size → wb.heap[k]? = wa.heap[k]? := fun {wa wb k v ls} h1 h2 h3 h4 => h2.block k h4 fun e => by have := (h1.lt e.symm).1; have := HS0.out; omega
 have HC2 : Hid (w2.cell? ⟨X, 0, none⟩ = some (.func (.func 132) #[] #[]) ∧ w2.cell? ⟨X + 1, 0, none⟩ = some (.slice none 0 0) ∧ w2.cell? ⟨X + 1, 1, none⟩ = some .nilFunc ∧ w2.frozen? ⟨X + 1, 0, none⟩ = false ∧ w2.frozen? ⟨X + 1, 1, none⟩ = false) := mkHid (by
  have e1 := far (k := X) HO.out hg (by omega) (by have := HSZ.out; omega)
  have e2 := far (k := X + 1) HO.out hg (by omega) (by have := HSZ.out; omega)
  exact ⟨(World.cell?_of_block (a := ⟨X, 0, none⟩) e1).trans HC1.out.1, (World.cell?_of_block (a := ⟨X + 1, 0, none⟩) e2).trans HC1.out.2.1, (World.cell?_of_block (a := ⟨X + 1, 1, none⟩) e2).trans HC1.out.2.2.1, (World.frozen?_of_block (a := ⟨X + 1, 0, none⟩) e2).trans HC1.out.2.2.2.1, (World.frozen?_of_block (a := ⟨X + 1, 1, none⟩) e2).trans HC1.out.2.2.2.2⟩)
 have HB2 : Hid (Below X w w2) := mkHid (HB1.out.grown hg (by have := HSZ.out; omega) (fun k hk => by have := (HO.out.lt hk).1; have := HS0.out; omega))
 have HSZ2 : Hid (X + 2 ≤ w2.heap.size) := mkHid (by have := hg.size; have := HSZ.out; omega)
 have HP := mkHid hperm
 have HSO := mkHid hsort
 have HO2 := mkHid ho
 have HLE := mkHid hlen
 clear hperm hsort ho hg hlen HC1 HB1 HSZ HO far
 obtain ⟨q0, r0, r1, t0, t1⟩ := HC2.out
 have hxl : X < w2.heap.size := by have := HSZ2.out; omega
 have HCO : Hid (Calls Tryz.prog 155 #[.slice ao F.length cap, .func (.func 154) #[] #[.pointer (some ⟨X, 0, none⟩)]] w2.drew fun e w' => w2.drew.grownBy w' (Value.ownBlock (.slice ao F.length cap)) ∧ ∃ (m : List Y), e = .returned (.slice ao m.length cap) ∧ IsSet m l' ∧ Own eY 49 w' w0.heap.size (.slice ao m.length cap) m) := mkHid (by
  have h := compact_any l' ao cap w0.heap.size X w2.drew (by rw [HLE.out]; exact ht) HSO.out (by rw [HLE.out]; exact HO2.out) HC2.out.1 (by have := HS0.out; omega)
  rw [HLE.out] at h
  exact h)
 have hkeep : ∀ (v : World), w2.drew.grownBy v (Value.ownBlock (.slice ao F.length cap)) → v.cell? ⟨X, 0, none⟩ = some (.func (.func 132) #[] #[]) ∧ v.cell? ⟨X + 1, 0, none⟩ = some (.slice none 0 0) ∧ v.cell? ⟨X + 1, 1, none⟩ = some .nilFunc ∧ v.frozen? ⟨X + 1, 0, none⟩ = false ∧ v.frozen? ⟨X + 1, 1, none⟩ = false := fun v hg => by
  have e1 : v.heap[X]? = w2.heap[X]? := hg.block X (by show X < w2.heap.size; have := HSZ2.out; omega) fun e => by have := (HO2.out.lt e.symm).1; have := HS0.out; omega
  have e2 : v.heap[X + 1]? = w2.heap[X + 1]? := hg.block (X + 1) (by show X + 1 < w2.heap.size; have := HSZ2.out; omega) fun e => by have := (HO2.out.lt e.symm).1; have := HS0.out; omega
  exact ⟨(World.cell?_of_block (a := ⟨X, 0, none⟩) e1).trans HC2.out.1, (World.cell?_of_block (a := ⟨X + 1, 0, none⟩) e2).trans HC2.out.2.1, (World.cell?_of_block (a := ⟨X + 1, 1, none⟩) e2).trans HC2.out.2.2.1, (World.frozen?_of_block (a := ⟨X + 1, 0, none⟩) e2).trans HC2.out.2.2.2.1, (World.frozen?_of_block (a := ⟨X + 1, 1, none⟩) e2).trans HC2.out.2.2.2.2⟩
 have HKP := mkHid hkeep
 clear hkeep
 have HBg : Hid (∀ (v : World), w2.drew.grownBy v (Value.ownBlock (.slice ao F.length cap)) → Below X w v) := mkHid fun v hg => HB2.out.drew.grown hg (by have := HSZ2.out; show X ≤ w2.heap.size; omega) (fun k hk => by have := (HO2.out.lt hk).1; have := HS0.out; omega)
 go_wp2_with fail
 go_region_held3 (fun w' => w'.cell? ⟨X, 0, none⟩ = some (.func (.func 132) #[] #[])) (first | exact q0 | exact hq2 | (simp [go_sem, hq2]; done))
  (first | (go_at_call 155; refine HCO.out.mono ?_; rintro e w3 ⟨hg, m, rfl, hset, hown⟩; obtain ⟨hq2, hr0, hr1, ht0, ht1⟩ := HKP.out _ hg))
 have HSE : Hid (IsSet m L.flatten) := mkHid (by rw [HF.out]; exact hset.perm HP.out)
 have HOW : Hid (Own eY 49 ((w3.setCell ⟨X + 1, 0, none⟩ (.slice ao m.length cap)).setCell ⟨X + 1, 1, none⟩ (.func (.func 132) #[] #[])) X (.slice ao m.length cap) m) := mkHid (by
  have h1 := (hown.outs (fun q hq => (hown.lt hq).2) (outs_set w3 (X + 1) 0 (.slice ao m.length cap)) (.inr (by have := HS0.out; omega)))
  exact (h1.outs (fun q hq => (h1.lt hq).2) (outs_set _ (X + 1) 1 (.func (.func 132) #[] #[])) (.inr (by have := HS0.out; omega))).mono (by have := HS0.out; omega))
 have HBF := mkHid (((HBg.out _ hg).setCell (p := ⟨X + 1, 0, none⟩) (by show X ≤ X + 1; omega) (.slice ao m.length cap)).setCell (p := ⟨X + 1, 1, none⟩) (by show X ≤ X + 1; omega) (.func (.func 132) #[] #[]))
 have hx1 : X + 1 < w3.heap.size := World.block_lt_of_cell? w3 _ hr0
 clear hset hown hg
 go_wp2
 refine bodyPost_ret (v := .agg #[.slice ao m.length cap, .func (.func 132) #[] #[]]) (by simp [results, Tryz.results131, go_sem, *]) rfl ⟨?_, m, ao, cap, rfl, HSE.out, ?_⟩
 ·rw [HX.out]; exact HBF.out
 ·rw [HX.out]; exact HOW.out
set_option maxRecDepth 100000 in
set_option maxHeartbeats 1600000 in
theorem termsOf_any (L : List (List Y)) (a : Option Addr) (c : Nat) (w : World) (hn : L.length ≤ 1048576) (ht : L.flatten.length ≤ 1048576) (hl : BndsAt w a L) :
  Calls Tryz.prog 89 #[.slice a L.length c] w fun e w' => Below w.heap.size w w' ∧ ∃ (m : List Y) (ao : Option Addr) (cap : Nat), e = .returned (.agg #[.slice ao m.length cap, .func (.func 132) #[] #[]]) ∧ IsSet m L.flatten ∧ Own eY 49 w' w.heap.size (.slice ao m.length cap) m := by
 obtain ⟨w0, hw0⟩ : ∃ x : World, w.alloc (.cells #[.slice none 0 0, .nilFunc] 127) = x := ⟨_, rfl⟩
 obtain ⟨X, hX⟩ : ∃ x, w.heap.size = x := ⟨_, rfl⟩
 have HX := mkHid hX
 have HB : Hid (Below X w w0) := mkHid (by rw [← hw0, ← hX]; exact bl_alloc (Below.refl _ _) _)
 have r0 : w0.cell? ⟨X, 0, none⟩ = some (.slice none 0 0) := by rw [← hw0, ← hX]; simp [go_sem]
 have r1 : w0.cell? ⟨X, 1, none⟩ = some .nilFunc := by rw [← hw0, ← hX]; simp [go_sem]
 have t0 : w0.frozen? ⟨X, 0, none⟩ = false := by rw [← hw0, ← hX]; simp [go_sem]
 have t1 : w0.frozen? ⟨X, 1, none⟩ = false := by rw [← hw0, ← hX]; simp [go_sem]
 have HS0 : Hid (w0.heap.size = X + 1) := mkHid (by rw [← hw0, ← hX]; simp)
 have HC : Hid (w0.cell? ⟨X, 0, none⟩ = some (.slice none 0 0) ∧ w0.cell? ⟨X, 1, none⟩ = some .nilFunc ∧ w0.frozen? ⟨X, 0, none⟩ = false ∧ w0.frozen? ⟨X, 1, none⟩ = false) := mkHid ⟨r0, r1, t0, t1⟩
 have HL := mkHid (hl.below (by rw [hX]; exact HB.out))
 clear hl r0 r1 t0 t1
 go_enter Tryz.func89, Tryz.ntmps89
 go_wp2_with fail
 clear hw0 hX
 refine (setOf_any L a c _ hn ht HL.out).mono ?_
 rintro e w1 ⟨hb, m, ao, cap, rfl, hset, ho⟩
 have HB1 : Hid (Below X w w1) := mkHid (HB.out.trans (hb.mono (by have := HS0.out; omega)))
 obtain ⟨r0, r1, t0, t1⟩ : w1.cell? ⟨X, 0, none⟩ = some (.slice none 0 0) ∧ w1.cell? ⟨X, 1, none⟩ = some .nilFunc ∧ w1.frozen? ⟨X, 0, none⟩ = false ∧ w1.frozen? ⟨X, 1, none⟩ = false := by
  obtain ⟨hc, hf⟩ := bcell hb
  have h1 : X < w0.heap.size := by have := HS0.out; omega
  exact ⟨(hc _ _ h1).trans HC.out.1, (hc _ _ h1).trans HC.out.2.1, (hf _ _ h1).trans HC.out.2.2.1, (hf _ _ h1).trans HC.out.2.2.2⟩
 have HSE := mkHid hset
 have HOW : Hid (Own eY 49 ((w1.setCell ⟨X, 0, none⟩ (.slice ao m.length cap)).setCell ⟨X, 1, none⟩ (.func (.func 132) #[] #[])) X (.slice ao m.length cap) m) := mkHid (by
  have h1 := (ho.outs (fun q hq => (ho.lt hq).2) (outs_set w1 X 0 (.slice ao m.length cap)) (.inr (by have := HS0.out; omega)))
  exact (h1.outs (fun q hq => (h1.lt hq).2) (outs_set _ X 1 (.func (.func 132) #[] #[])) (.inr (by have := HS0.out; omega))).mono (by have := HS0.out; omega))
 have HBF := mkHid ((HB1.out.setCell (p := ⟨X, 0, none⟩) (Nat.le_refl _) (.slice ao m.length cap)).setCell (p := ⟨X, 1, none⟩) (Nat.le_refl _) (.func (.func 132) #[] #[]))
 have hx1 : X < w1.heap.size := World.block_lt_of_cell? w1 _ r0
 clear hset ho hb
 go_wp2
 refine bodyPost_ret (v := .agg #[.slice ao m.length cap, .func (.func 132) #[] #[]]) (by simp [results, Tryz.results89, go_sem, *]) rfl ⟨?_, m, ao, cap, rfl, HSE.out, ?_⟩
 ·rw [HX.out]; exact HBF.out
 ·rw [HX.out]; exact HOW.out
end Go.Proofs.YtihpajiololfoaaGreat
