/-
  CONTRACT of the program's FactsBound.
  CONTRACTS of toSym, of comparing (cmp.Compare, cmp.Or), and of both SymOks, both SymLesses.
  STEPS of a widening: plain models; CONTRACTS of areVals, areSteps, stepBelow, stepAbove of the program.
  CONTRACTS of areSteps of the program, l06Steps of the specification.
  CONTRACT of l06Steps of the specification.
-/
import Derived.Test.YtgclngofigffdaaFm07
import Derived.Test.YtgclngofigffdaaFm08
import Derived.Test.YtgclngofigffdaaFm00
import Derived.Deep.AppendLies
import Derived.Deep.Onto
import Derived.Deep.QuietTactic
import Derived.BigQuiet
namespace Go.Proofs.Ytgclngofigffdaa
open Go.RowKit

/-- What may be bound. -/
def bndB (i lo hi m : Int) : Bool := symB i m && someB lo hi
/-- What FactsBound answers. -/
def bndF (z : Int) (l : List Int) (i lo hi : Int) : Option Tab := if bndB i lo hi (outZ (okO z l) z.toNat) then addO z.toNat 0 i.toNat (-lo) (addO z.toNat i.toNat 0 hi (okO z l)) else none
theorem bnd_nat {n : Nat} {o : Option Tab} {i lo hi : Int} (h : bndB i lo hi (outZ o n) = true) : (∃ k : Nat, i = k ∧ k < n) ∧ -1000000 ≤ lo ∧ lo ≤ hi ∧ hi ≤ 1000000 := by
  unfold bndB at h
  rw [Bool.and_eq_true, some_iff] at h
  exact ⟨sym_nat h.1, h.2⟩
theorem bndF_fine (z : Int) (l : List Int) (i lo hi : Int) : FineO z.toNat (bndF z l i lo hi) := by
  unfold bndF
  split
  · rename_i h
    obtain ⟨⟨i', rfl, hi'⟩, _⟩ := bnd_nat h
    exact addO_good (addO_good (okO_fine z l) (fun f _ => ⟨by simpa using hi', by omega⟩) hi) (fun f _ => ⟨by omega, by simpa using hi'⟩) (-lo)
  · exact fun f e => by cases e
/-- Two numbers in a block. -/
theorem Box.new' (w : World) (x y : Int) (T : TypeId) : Box (w.alloc (.cells #[.int .i64 x, .int .i64 y] T)) w.heap.size x y := ⟨by simp [go_sem], by simp [go_sem], by simp [go_sem], by simp [go_sem]⟩
theorem Box.grown {w w' : World} {b : Nat} {x y : Int} {row : Option Nat} (h : Box w b x y) (hg : w.grownBy w' row) (hr : some b ≠ row) : Box w' b x y :=
  ⟨(hg.cell_far ⟨b, 0, none⟩ h.lt hr).trans h.1, (hg.cell_far ⟨b, 1, none⟩ h.lt hr).trans h.2.1, (hg.frozen_far ⟨b, 0, none⟩ h.lt hr).trans h.2.2.1, (hg.frozen_far ⟨b, 1, none⟩ h.lt hr).trans h.2.2.2⟩
set_option maxRecDepth 100000 in
set_option maxHeartbeats 1600000 in
theorem iBound_any (z : Int) (l : List Int) (a : Option Addr) (c0 : Nat) (i lo hi : Int) (w : World) (hc : l.length ≤ c0) (hl : IntsAt w a l) : Calls Try.prog 27 #[.agg #[.int .i64 z, .slice a l.length c0], .int .i64 i, .agg #[.int .i64 lo, .int .i64 hi]] w fun e w' => Gives w w' e (outZ (bndF z l i lo hi) z.toNat) (outL (bndF z l i lo hi) z.toNat) := by
  have HC := mkHid hc
  have HL := mkHid hl
  have B0 := mkHid ((((Below.refl w.heap.size w).alloc (Nat.le_refl _) (.cells #[.int .i64 z, .slice a l.length c0] 26)).alloc (by simp) (.cells #[.int .i64 lo, .int .i64 hi] 44)).alloc (by simp; omega) (.cells #[.int .i64 0, .slice none 0 0] 26))
  have Z0 : Hid (Fz (((w.alloc (.cells #[.int .i64 z, .slice a l.length c0] 26)).alloc (.cells #[.int .i64 lo, .int .i64 hi] 44)).alloc (.cells #[.int .i64 0, .slice none 0 0] 26)) (w.heap.size + 2)) := mkHid (by have := Fz.new ((w.alloc (.cells #[.int .i64 z, .slice a l.length c0] 26)).alloc (.cells #[.int .i64 lo, .int .i64 hi] 44)); simpa using this)
  have R0 : Hid (Box (((w.alloc (.cells #[.int .i64 z, .slice a l.length c0] 26)).alloc (.cells #[.int .i64 lo, .int .i64 hi] 44)).alloc (.cells #[.int .i64 0, .slice none 0 0] 26)) (w.heap.size + 1) lo hi) := mkHid (by have := (Box.new' (w.alloc (.cells #[.int .i64 z, .slice a l.length c0] 26)) lo hi 44).below ((Below.refl _ _).alloc (Nat.le_refl _) (.cells #[.int .i64 0, .slice none 0 0] 26)); simpa using this)
  obtain ⟨G, hG, hGl⟩ := D_out z.toNat (okO z l)
  have HD : Hid (∀ v, IntsAt v a l → Calls Try.prog 39 #[.agg #[.int .i64 z, .slice a l.length c0]] v fun e w' => e = .returned (.agg (dA (outZ (okO z l) z.toNat) G)) ∧ Below v.heap.size v w') := mkHid fun v hv => by rw [← hG]; exact diffsD z l a c0 v HC.out hv
  have HA1 : Hid (∀ v, bndB i lo hi (outZ (okO z l) z.toNat) = true → Calls Try.prog 62 #[.agg (dA (outZ (okO z l) z.toNat) G), .int .i64 i, .int .i64 0, .int .i64 hi] v fun e w' => e = .returned (.agg (D z.toNat (addO z.toNat i.toNat 0 hi (okO z l)))) ∧ Below v.heap.size v w') := mkHid fun v h0 => by
    rw [← hG]
    obtain ⟨⟨i', rfl, hi'⟩, _⟩ := bnd_nat h0
    have := addedD z.toNat _ (okO_fine z l).good i' 0 (fun _ _ => ⟨hi', by omega⟩) hi v
    simpa using this
  have HA2 : Hid (∀ v, bndB i lo hi (outZ (okO z l) z.toNat) = true → Calls Try.prog 62 #[.agg (D z.toNat (addO z.toNat i.toNat 0 hi (okO z l))), .int .i64 0, .int .i64 i, .int .i64 (-lo)] v fun e w' => e = .returned (.agg (D z.toNat (bndF z l i lo hi))) ∧ Below v.heap.size v w') := mkHid fun v h0 => by
    have hf : bndF z l i lo hi = addO z.toNat 0 i.toNat (-lo) (addO z.toNat i.toNat 0 hi (okO z l)) := by unfold bndF; rw [h0]; rfl
    rw [hf]
    obtain ⟨⟨i', rfl, hi'⟩, _⟩ := bnd_nat h0
    have := addedD z.toNat (addO z.toNat i' 0 hi (okO z l)) (addO_good (okO_fine z l) (fun f _ => ⟨hi', by omega⟩) hi).good 0 i' (fun _ _ => ⟨by omega, hi'⟩) (-lo) v
    simpa using this
  have HWC : Hid (bndB i lo hi (outZ (okO z l) z.toNat) = true → IntKind.i64.wrap (-lo) = -lo) := mkHid fun h0 => by
    obtain ⟨_, h3, h4, h5⟩ := bnd_nat h0
    exact IntWalk.i64_in _ (by omega)
  have HFA := mkHid (bndF_fine z l i lo hi)
  have HNO : Hid (bndB i lo hi (outZ (okO z l) z.toNat) = false → bndF z l i lo hi = none) := mkHid fun h => by unfold bndF; rw [h]; rfl
  obtain ⟨R, hR⟩ : ∃ R, bndF z l i lo hi = R := ⟨_, rfl⟩
  rw [hR] at HA2 HFA HNO
  rw [hR]
  obtain ⟨R1, hR1⟩ : ∃ R, addO z.toNat i.toNat 0 hi (okO z l) = R := ⟨_, rfl⟩
  rw [hR1] at HA1 HA2
  obtain ⟨n, hn⟩ : ∃ n, z.toNat = n := ⟨_, rfl⟩
  rw [hn] at HD HFA HNO HA1 HA2 HWC
  rw [hn]
  obtain ⟨m, hm⟩ : ∃ m, outZ (okO z l) n = m := ⟨_, rfl⟩
  rw [hm] at HD HNO HA1 HA2 HWC
  clear hR1
  have HGL := mkHid hGl
  clear hc hl hG hGl hR hn hm
  have hzc := zc64
  go_enter Try.func27, Try.ntmps27
  go_wp2_with fail
  refine (HD.out _ (HL.out.below B0.out)).mono ?_
  rintro e w1 ⟨rfl, hb1⟩
  have B1 := mkHid (below_step B0.out hb1)
  have Z1 := mkHid (Z0.out.below hb1)
  have R1' := mkHid (R0.out.below hb1)
  have s1 := Z1.out.lt
  have N1 := mkHid (Dif.new w1 (n := 0) zs_len 59)
  clear hb1 B0 Z0 R0
  go_wp2_with (first | (refine wp_store64 N1.out HGL.out rfl rfl rfl rfl ?_; intro w2 hD2 hg2) | (refine wp_load64 hD2 rfl rfl rfl ?_))
  have B2 := mkHid ((B1.out.alloc B1.out.size _).grown hg2 (by have := B1.out.size; simp; omega) (fun q hq => by cases hq; exact B1.out.size))
  have Z2 := mkHid ((Z1.out.alloc _).grown hg2 (some_ne (by omega)))
  have R2 := mkHid ((R1'.out.below ((Below.refl _ _).alloc (Nat.le_refl _) _)).grown hg2 (some_ne (by omega)))
  have D2 := mkHid hD2
  obtain ⟨b1, hb1⟩ : ∃ b, w1.heap.size = b := ⟨_, rfl⟩
  rw [hb1] at D2
  rw [hb1]
  have hwb : w.heap.size + 2 < b1 := by omega
  clear hD2 hg2 N1 B1 Z1 R1' s1 hb1
  refine (hasSym_any m G i _).mono ?_
  rintro e w3 ⟨rfl, hb3⟩
  have B3 := mkHid (below_step B2.out hb3)
  have Z3 := mkHid (Z2.out.below hb3)
  have D3 := mkHid (D2.out.below hb3)
  have R3 := mkHid (R2.out.below hb3)
  clear hb3 B2 Z2 D2 R2
  obtain ⟨r0, r1, r2, r3⟩ := R3.out
  cases hi' : symB i m
  · have e1 : Hid (R = none) := mkHid (HNO.out (by unfold bndB; rw [hi']; rfl))
    obtain ⟨⟨z0, z1⟩, z2, z3⟩ := Z3.out
    go_wp2
    refine bodyPost_ret (v := .agg #[.int .i64 0, .slice none 0 0]) (by simp [results, Try.results27, go_sem, z0, z1]) rfl ?_
    rw [e1.out]
    exact ⟨none, 0, rfl, OwnI.nil _ _, none_shut B3.out (by omega) _ _⟩
  · go_wp2_with fail
    refine (isSome_any lo hi _).mono ?_
    rintro e w4 ⟨rfl, hb4⟩
    have B4 := mkHid (below_step B3.out hb4)
    have Z4 := mkHid (Z3.out.below hb4)
    have D4 := mkHid (D3.out.below hb4)
    have R4 := mkHid (R3.out.below hb4)
    clear hb4 B3 Z3 D3 R3 r0 r1 r2 r3
    cases hs : someB lo hi
    · have e1 : Hid (R = none) := mkHid (HNO.out (by unfold bndB; rw [hi', hs]; rfl))
      obtain ⟨⟨z0, z1⟩, z2, z3⟩ := Z4.out
      go_wp2
      refine bodyPost_ret (v := .agg #[.int .i64 0, .slice none 0 0]) (by simp [results, Try.results27, go_sem, z0, z1]) rfl ?_
      rw [e1.out]
      exact ⟨none, 0, rfl, OwnI.nil _ _, none_shut B4.out (by omega) _ _⟩
    · have hcp : bndB i lo hi m = true := by unfold bndB; rw [hi', hs]; rfl
      have HA12 := mkHid (fun v => HA1.out v hcp)
      have HA22 := mkHid (fun v => HA2.out v hcp)
      have hwc := HWC.out hcp
      clear hcp hi' hs HA1 HA2 HWC
      go_wp2_with fail
      have Bs := mkHid B4.out.drew
      have Zs := mkHid (Z4.out.below (Below.refl _ _).drew)
      have Ds := mkHid D4.out.drew
      have Rs := mkHid (R4.out.below (Below.refl _ _).drew)
      refine wp_region_held_drew (S := (fun v => Dif v b1 m G ∧ Box v (w.heap.size + 1) lo hi)) (by kernel_rfl) ⟨Ds.out, Rs.out⟩ (fun _ => ?_)
      refine wpAnyH_take (i := 0) (oi := { dst := some 20, op := Op.load 59 (Operand.tmp 7), type := 59, pos := "l07_facts.go:181", after := #[], guard := none }) (v := .agg (dA m G)) rfl (by kernel_rfl) (by kernel_rfl) (by kernel_rfl) (fun _ _ _ h => h) (yieldsIf_load_mid (by rfl) 59 _ rfl b1 0 rfl (dL m G) _ (fun v hv => hv.1.range) Try.underlying59 rfl (by rw [dL_len HGL.out]; exact size64)) (by assumption) ?_
      try simp only [Act.put, List.setIfInBounds_toArray, List.set_cons_zero, List.set_cons_succ]
      refine wpAnyH_take (i := 1) (oi := { dst := some 21, op := Op.move (Operand.tmp 1), type := 3, pos := "l07_facts.go:181", after := #[], guard := none }) (v := ?vb2) rfl (by kernel_rfl) (by kernel_rfl) (by kernel_rfl) (fun _ _ _ h => h) (Or.inl ⟨by rfl, ?hyb2⟩) (by assumption) ?restb2
      case hyb2 => (intro w' hSw; (try dsimp only at hSw); go_simp; try with_reducible rfl)
      try simp only [Act.put, List.setIfInBounds_toArray, List.set_cons_zero, List.set_cons_succ]
      refine wpAnyH_take (i := 2) (oi := { dst := some 22, op := Op.fieldAddr 44 (Operand.tmp 5) 1, type := 0, pos := "l07_facts.go:181", after := #[], guard := none }) (v := ?vb3) rfl (by kernel_rfl) (by kernel_rfl) (by kernel_rfl) (fun _ _ _ h => h) (Or.inl ⟨by rfl, ?hyb3⟩) (by assumption) ?restb3
      case hyb3 => (intro w' hSw; (try dsimp only at hSw); go_simp; try with_reducible rfl)
      try simp only [Act.put, List.setIfInBounds_toArray, List.set_cons_zero, List.set_cons_succ]
      refine wpAnyH_take (i := 3) (oi := { dst := some 23, op := Op.load 3 (Operand.tmp 22), type := 3, pos := "l07_facts.go:181", after := #[{ on := 2, ground := Ground.data }], guard := none }) (v := ?vb4) rfl (by kernel_rfl) (by kernel_rfl) (by kernel_rfl) (fun _ _ _ h => h) (Or.inl ⟨by rfl, ?hyb4⟩) (by assumption) ?restb4
      case hyb4 => (intro w' hSw; obtain ⟨-, q0, q1, q2, q3⟩ := hSw; go_simp; try with_reducible rfl)
      try simp only [Act.put, List.setIfInBounds_toArray, List.set_cons_zero, List.set_cons_succ]
      refine wpAnyH_take (i := 5) (oi := { dst := some 25, op := Op.move (Operand.tmp 1), type := 3, pos := "l07_facts.go:181", after := #[], guard := none }) (v := ?vb5) rfl (by kernel_rfl) (by kernel_rfl) (by kernel_rfl) (fun _ _ _ h => h) (Or.inl ⟨by rfl, ?hyb5⟩) (by assumption) ?restb5
      case hyb5 => (intro w' hSw; (try dsimp only at hSw); go_simp; try with_reducible rfl)
      try simp only [Act.put, List.setIfInBounds_toArray, List.set_cons_zero, List.set_cons_succ]
      refine wpAnyH_take (i := 6) (oi := { dst := some 26, op := Op.fieldAddr 44 (Operand.tmp 5) 0, type := 0, pos := "l07_facts.go:181", after := #[], guard := none }) (v := ?vb6) rfl (by kernel_rfl) (by kernel_rfl) (by kernel_rfl) (fun _ _ _ h => h) (Or.inl ⟨by rfl, ?hyb6⟩) (by assumption) ?restb6
      case hyb6 => (intro w' hSw; (try dsimp only at hSw); go_simp; try with_reducible rfl)
      try simp only [Act.put, List.setIfInBounds_toArray, List.set_cons_zero, List.set_cons_succ]
      refine wpAnyH_take (i := 7) (oi := { dst := some 27, op := Op.load 3 (Operand.tmp 26), type := 3, pos := "l07_facts.go:181", after := #[{ on := 6, ground := Ground.data }], guard := none }) (v := ?vb7) rfl (by kernel_rfl) (by kernel_rfl) (by kernel_rfl) (fun _ _ _ h => h) (Or.inl ⟨by rfl, ?hyb7⟩) (by assumption) ?restb7
      case hyb7 => (intro w' hSw; obtain ⟨-, q0, q1, q2, q3⟩ := hSw; go_simp; try with_reducible rfl)
      try simp only [Act.put, List.setIfInBounds_toArray, List.set_cons_zero, List.set_cons_succ]
      refine wpAnyH_take (i := 8) (oi := { dst := some 28, op := Op.unOp UnOp.neg 3 (Operand.tmp 27), type := 3, pos := "l07_facts.go:181", after := #[{ on := 7, ground := Ground.data }], guard := none }) (v := ?vb8) rfl (by kernel_rfl) (by kernel_rfl) (by kernel_rfl) (fun _ _ _ h => h) (Or.inl ⟨by rfl, ?hyb8⟩) (by assumption) ?restb8
      case hyb8 => (intro w' hSw; (try dsimp only at hSw); go_simp; try with_reducible rfl)
      try simp only [Act.put, List.setIfInBounds_toArray, List.set_cons_zero, List.set_cons_succ]
      refine wpAnyH_ready (rs := [4]) (by kernel_rfl) (by simp) ?_
      refine AllReadyH.cons (o := { dst := some 24, op := Op.call { callee := Callee.value (Operand.func 62), args := #[Operand.tmp 20, Operand.tmp 21, Operand.const (Value.int IntKind.i64 0), Operand.tmp 23], argTypes := #[59, 3, 3, 3] }, type := 59, pos := "l07_facts.go:181", after := #[{ on := 0, ground := Ground.data }, { on := 1, ground := Ground.data }, { on := 3, ground := Ground.data }], guard := none }) rfl (fun K hK => ?_) ?_
      · go_simp
        refine (HA12.out _).mono ?_
        rintro e w5 ⟨rfl, hb⟩
        have Bw5 := mkHid (below_step Bs.out hb)
        have Zw5 := mkHid (Zs.out.below hb)
        have Dw5 := mkHid (Ds.out.below hb)
        have Rw5 := mkHid (Rs.out.below hb)
        clear hb
        go_wp2_with fail
        refine hK.out _ _ ?_ (fun _ => ?_)
        · exact ⟨Dw5.out, Rw5.out⟩
        clear hK K
        try simp only [Act.put, List.setIfInBounds_toArray, List.set_cons_zero, List.set_cons_succ]
        refine wpAnyH_ready (rs := [9]) (by kernel_rfl) (by simp) ?_
        refine AllReadyH.cons (o := { dst := some 29, op := Op.call { callee := Callee.value (Operand.func 62), args := #[Operand.tmp 24, Operand.const (Value.int IntKind.i64 0), Operand.tmp 25, Operand.tmp 28], argTypes := #[59, 3, 3, 3] }, type := 59, pos := "l07_facts.go:181", after := #[{ on := 4, ground := Ground.data }, { on := 5, ground := Ground.data }, { on := 8, ground := Ground.data }, { on := 4, ground := Ground.chain }], guard := none }) rfl (fun K hK => ?_) ?_
        · go_simp
          refine (HA22.out _).mono ?_
          rintro e w6 ⟨rfl, hb⟩
          have Bw6 := mkHid (below_step Bw5.out hb)
          have Zw6 := mkHid (Zw5.out.below hb)
          have Dw6 := mkHid (Dw5.out.below hb)
          have Rw6 := mkHid (Rw5.out.below hb)
          clear hb
          go_wp2_with fail
          refine hK.out _ _ ?_ (fun _ => ?_)
          · exact ⟨Dw6.out, Rw6.out⟩
          clear hK K
          try simp only [Act.put, List.setIfInBounds_toArray, List.set_cons_zero, List.set_cons_succ]
          refine wpAnyH_ready (rs := [10]) (by kernel_rfl) (by simp) ?_
          refine AllReadyH.cons (o := { dst := some 30, op := Op.call { callee := Callee.value (Operand.func 42), args := #[Operand.tmp 29], argTypes := #[59] }, type := 26, pos := "l07_facts.go:181", after := #[{ on := 9, ground := Ground.data }, { on := 9, ground := Ground.chain }], guard := none }) rfl (fun K hK => ?_) ?_
          · go_simp
            refine (factsD n _ HFA.out.good _).mono ?_
            rintro e w7 ⟨ao, cap, rfl, ho, hb7⟩
            have DF := mkHid (Dw6.out.below hb7)
            have RF := mkHid (Rw6.out.below hb7)
            have s6 := Zw6.out.lt
            obtain ⟨⟨z0, z1⟩, z2, z3⟩ := Zw6.out.below hb7
            have HE := mkHid (fun v0 v1 => Gives.shut (b := w.heap.size + 2) Bw6.out (by omega) Zw6.out.lt ho hb7 v0 v1)
            clear hb7 ho
            go_wp2_with fail
            refine hK.out _ _ ?_ (fun _ => ?_)
            · exact ⟨DF.out, RF.out⟩
            clear hK K
            try simp only [Act.put, List.setIfInBounds_toArray, List.set_cons_zero, List.set_cons_succ]
            refine wpAnyH_ready (rs := [11]) (by kernel_rfl) (by simp) ?_
            refine AllReadyH.cons (o := { dst := none, op := Op.store 26 (Operand.tmp 6) (Operand.tmp 30), type := 0, pos := "l07_facts.go:181", after := #[{ on := 10, ground := Ground.data }, { on := 10, ground := Ground.chain }, { on := 0, ground := Ground.phase }, { on := 1, ground := Ground.phase }, { on := 2, ground := Ground.phase }, { on := 3, ground := Ground.phase }, { on := 4, ground := Ground.phase }, { on := 5, ground := Ground.phase }, { on := 6, ground := Ground.phase }, { on := 7, ground := Ground.phase }, { on := 8, ground := Ground.phase }, { on := 9, ground := Ground.phase }, { on := 10, ground := Ground.phase }], guard := none }) rfl (fun K hK => ?_) ?_
            · go_simp
              refine hK.out _ _ ?_ (fun _ => ?_)
              · exact ⟨(DF.out.grown (grown_setCell _ ⟨w.heap.size + 2, 0, none⟩ _) (some_ne (by show b1 ≠ w.heap.size + 2; omega))).grown (grown_setCell _ ⟨w.heap.size + 2, 1, none⟩ _) (some_ne (by show b1 ≠ w.heap.size + 2; omega)), (RF.out.grown (grown_setCell _ ⟨w.heap.size + 2, 0, none⟩ _) (some_ne (by show w.heap.size + 1 ≠ w.heap.size + 2; omega))).grown (grown_setCell _ ⟨w.heap.size + 2, 1, none⟩ _) (some_ne (by show w.heap.size + 1 ≠ w.heap.size + 2; omega))⟩
              clear hK K
              try simp only [Act.put, List.setIfInBounds_toArray, List.set_cons_zero, List.set_cons_succ]
              refine wpAnyH_done (by kernel_rfl) ?_ _
              go_wp2
              exact bodyPost_ret (v := .agg #[.int .i64 (outZ R n), .slice ao (outL R n).length cap]) (by simp [results, Try.results27, go_sem, z0, z1]) rfl ⟨ao, cap, rfl, (HE.out _ _).1, (HE.out _ _).2⟩
            exact AllReadyH.nil
          exact AllReadyH.nil
        exact AllReadyH.nil
      exact AllReadyH.nil
end Go.Proofs.Ytgclngofigffdaa
namespace Go.Proofs.Ytgclngofigffdaa
open Go.RowKit

end Go.Proofs.Ytgclngofigffdaa
namespace Go.Proofs.Ytgclngofigffdaa
open Go.RowKit

/-- Ints that lie in a row, to be read. -/
def IntsIn (w : World) (l : List Int) (b off : Nat) : Prop := ∀ (i : Nat) (x : Int), l[i]? = some x → w.cell? ⟨b, off + i, none⟩ = some (.int .i64 x)
theorem IntsIn.below {w w' : World} {l : List Int} {b off : Nat} (h : IntsIn w l b off) (hb : Below w.heap.size w w') : IntsIn w' l b off := fun i x hi => by
  have h0 := h i x hi
  exact (hb.cell (p := ⟨b, off + i, none⟩) (World.block_lt_of_cell? w _ h0)).trans h0
def upB : List Int → Bool
  | x :: y :: l => decide (x < y) && upB (y :: l)
  | _ => true
def valsB (l : List Int) : Bool := l.all valB
theorem vals_take {l : List Int} {k : Nat} {x : Int} (h : l[k]? = some x) (ht : (l.take k).all valB = true) (hx : valB x = true) : (l.take (k + 1)).all valB = true := by
  rw [List.take_add_one, h, List.all_append, ht]; simp [hx]
theorem vals_no {l : List Int} {k : Nat} {x : Int} (h : l[k]? = some x) (hx : valB x = false) : valsB l = false := by
  unfold valsB
  cases hh : l.all valB
  · rfl
  · rw [List.all_eq_true] at hh
    rw [hh x (List.mem_of_getElem? h)] at hx
    cases hx
set_option maxHeartbeats 800000 in
theorem areVals_of (l : List Int) (b off c : Nat) (w : World) (hn : l.length ≤ maxLen) (hl : IntsIn w l b off) : Calls Try.prog 60 #[.slice (some ⟨b, off, none⟩) l.length c] w fun e w' => e = .returned (.bool (valsB l)) ∧ w = w' := by
  unfold maxLen at hn
  have HL := mkHid hl
  clear hl
  go_enter Try.func60, Try.ntmps60
  go_wp2
  go_loopw [7] (fun i w' => ∃ (k : Nat), k ≤ l.length ∧ i = .int .i64 k ∧ (l.take k).all valB = true ∧ w' = w) (fun i _ => l.length - (intOf i).toNat)
  case atStart => exact ⟨0, Nat.zero_le _, rfl, by simp, rfl⟩
  case round =>
    obtain ⟨k, hk, rfl, hall, rfl⟩ := hrel
    have HA := mkHid hall
    clear hall
    by_cases hlt : k < l.length
    · obtain ⟨x, hx⟩ : ∃ x, l[k]? = some x := ⟨_, List.getElem?_eq_getElem hlt⟩
      have c0 := HL.out k x hx
      have i0 : (0 : Int) ≤ (k : Int) := by omega
      have i1 : (k : Int) < (l.length : Int) := by omega
      cases h1 : valB x
      · have e := mkHid (vals_no hx h1)
        clear hx
        go_wp2_with (go_at_call 77; refine (iVal_any _ _).mono ?_; rintro e w' ⟨rfl, rfl⟩)
        go_ret
        exact ⟨ret_bool e.out.symm, rfl⟩
      · have e := mkHid (vals_take hx HA.out h1)
        clear hx
        go_wp2_with (go_at_call 77; refine (iVal_any _ _).mono ?_; rintro e w' ⟨rfl, rfl⟩)
        go_roundw
        case rel => exact ⟨k + 1, by omega, by go_num, e.out, by trivial⟩
        case measure => simp [intOf]; omega
    · have e : Hid (valsB l = true) := mkHid (by have := HA.out; rw [List.take_of_length_le (by omega)] at this; exact this)
      go_wp2
      go_ret
      exact ⟨ret_bool e.out.symm, rfl⟩
end Go.Proofs.Ytgclngofigffdaa
namespace Go.Proofs.Ytgclngofigffdaa
open Go.RowKit

def Up (l : List Int) (k : Nat) : Prop := ∀ (i : Nat) (x y : Int), i + 1 < k → l[i]? = some x → l[i + 1]? = some y → x < y
theorem upB_iff : ∀ (l : List Int), upB l = true ↔ Up l l.length
  | [] => by simp [upB, Up]
  | [x] => by simp [upB, Up]
  | x :: y :: l => by
    have ih := upB_iff (y :: l)
    rw [upB, Bool.and_eq_true, decide_eq_true_eq, ih]
    constructor
    · rintro ⟨h0, h⟩ i u v hi hu hv
      cases i with
      | zero => simp at hu hv; omega
      | succ i => exact h i u v (by simp at hi ⊢; omega) (by simpa using hu) (by simpa using hv)
    · intro h
      exact ⟨h 0 x y (by simp) rfl rfl, fun i u v hi hu hv => h (i + 1) u v (by simp at hi ⊢; omega) (by simpa using hu) (by simpa using hv)⟩
theorem Up.next {l : List Int} {k : Nat} {x y : Int} (h : Up l k) (hx : l[k - 1]? = some x) (hy : l[k]? = some y) (hk : 1 ≤ k) (hlt : x < y) : Up l (k + 1) := by
  intro i u v hi hu hv
  by_cases h1 : i + 1 < k
  · exact h i u v h1 hu hv
  · have e : i = k - 1 := by omega
    have e2 : i + 1 = k := by omega
    rw [e, hx] at hu
    rw [e2, hy] at hv
    simp at hu hv
    omega
theorem Up.no {l : List Int} {k : Nat} {x y : Int} (hx : l[k - 1]? = some x) (hy : l[k]? = some y) (hk : 1 ≤ k) (hge : y ≤ x) : upB l = false := by
  cases h : upB l
  · rfl
  · have hkl : k < l.length := (List.getElem?_eq_some_iff.1 hy).1
    have := (upB_iff l).1 h (k - 1) x y (by omega) hx (by rw [show k - 1 + 1 = k by omega]; exact hy)
    omega

end Go.Proofs.Ytgclngofigffdaa
namespace Go.Proofs.Ytgclngofigffdaa
open Go.RowKit

end Go.Proofs.Ytgclngofigffdaa
