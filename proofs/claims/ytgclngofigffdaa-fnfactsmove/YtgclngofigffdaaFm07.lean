/-
  CONTRACTS of the program's hasSym, canSet, isGap, added, freed.
  CONTRACT of the program's FactsAdd.
  CONTRACT of the specification's FactsClose.
-/
import Derived.Test.YtgclngofigffdaaFm06
namespace Go.Proofs.Ytgclngofigffdaa
open Go.RowKit

def symB (i n : Int) : Bool := decide (0 ≤ i ∧ i < n)
def setB (i n : Int) : Bool := decide (0 < i ∧ i < n)
theorem wpo_load64 {op : Oper} {a : Act} {w : World} {K : Act → World → Prop} {Q : Exit → Act → World → Prop} {x : Operand} {b : Nat} {n : Int} {G : List Int} (hD : Dif w b n G) (ho : op.op = .load 59 x)
    (hx : a.eval x = .pointer (some ⟨b, 0, none⟩)) (h : K (a.put op.dst (.agg (dA n G))) w) : op.wp Try.prog a w K Q :=
  wp_load_mid 59 x ho b 0 hx (dL n G) _ hD.range Try.underlying59 rfl (by rw [dL_len hD.len]; exact size64) h
set_option maxRecDepth 100000 in
set_option maxHeartbeats 400000 in
theorem hasSym_any (n : Int) (G : List Int) (i : Int) (w : World) : Calls Try.prog 61 #[.agg (dA n G), .int .i64 i] w fun e w' => e = .returned (.bool (symB i n)) ∧ Below w.heap.size w w' := by
  have h0 := dA0 n G
  by_cases h1 : 0 ≤ i
  · by_cases h2 : i < n
    · have e := mkHid (show symB i n = true from decide_eq_true (show 0 ≤ i ∧ i < n from ⟨h1, h2⟩))
      go_enter Try.func61, Try.ntmps61
      go_wp2
      go_ret
      exact ⟨ret_bool e.out.symm, (Below.refl _ _).alloc (Nat.le_refl _) _⟩
    · have e := mkHid (show symB i n = false from decide_eq_false (show ¬ (0 ≤ i ∧ i < n) from fun h => h2 h.2))
      go_enter Try.func61, Try.ntmps61
      go_wp2
      go_ret
      exact ⟨ret_bool e.out.symm, (Below.refl _ _).alloc (Nat.le_refl _) _⟩
  · have e := mkHid (show symB i n = false from decide_eq_false (show ¬ (0 ≤ i ∧ i < n) from fun h => h1 h.1))
    go_enter Try.func61, Try.ntmps61
    go_wp2
    go_ret
    exact ⟨ret_bool e.out.symm, (Below.refl _ _).alloc (Nat.le_refl _) _⟩
set_option maxRecDepth 100000 in
set_option maxHeartbeats 400000 in
theorem canSet_any (n : Int) (G : List Int) (hG : G.length = 169) (i : Int) (w : World) : Calls Try.prog 67 #[.agg (dA n G), .int .i64 i] w fun e w' => e = .returned (.bool (setB i n)) ∧ Below w.heap.size w w' := by
  have h0 := dA0 n G
  have D0 := mkHid (Dif.new w (n := n) hG 59)
  have B0 := mkHid ((Below.refl w.heap.size w).alloc (Nat.le_refl _) (.cells (dA n G) 59))
  by_cases h1 : 0 < i
  · have e : Hid (symB i n = setB i n) := mkHid (by unfold symB setB; rw [decide_eq_decide]; omega)
    go_enter Try.func67, Try.ntmps67
    go_wp2_with fail
    refine wpo_load64 D0.out rfl rfl ?_
    go_wp2_with fail
    refine (hasSym_any n G i _).mono ?_
    rintro e2 w1 ⟨rfl, hb⟩
    have B1 := mkHid (below_step B0.out hb)
    rw [e.out]
    obtain ⟨t, ht⟩ : ∃ t, setB i n = t := ⟨_, rfl⟩
    rw [ht]
    have HT := mkHid ht
    clear hb ht
    go_wp2
    go_ret
    exact ⟨ret_bool HT.out.symm, B1.out⟩
  · have e := mkHid (show setB i n = false from decide_eq_false (show ¬ (0 < i ∧ i < n) from fun h => h1 h.1))
    go_enter Try.func67, Try.ntmps67
    go_wp2
    go_ret
    exact ⟨ret_bool e.out.symm, B0.out⟩
set_option maxHeartbeats 400000 in
theorem isGap_any (c : Int) (w : World) : Calls Try.prog 69 #[.int .i64 c] w fun e w' => e = .returned (.bool (btw c (-2000000) 2000000)) ∧ w = w' := by
  go_enter Try.func69, Try.ntmps69
  go_wp2_with (go_at_call 65; refine (isBetween_any _ _ _ _).mono ?_; rintro e w' ⟨rfl, rfl⟩)
  go_ret
  exact ⟨rfl, rfl⟩
def setT (f : Tab) (i j : Nat) (c : Int) : Tab := fun a b => if a = i ∧ b = j then min (f i j) c else f a b
theorem grid_set {n : Nat} (hn : n ≤ 13) (f : Tab) {i j : Nat} (hi : i < n) (hj : j < n) (x : Int) : (grid n f).set (i * 13 + j) x = grid n (fun a b => if a = i ∧ b = j then x else f a b) := by
  refine grid_of hn (by rw [List.length_set, grid_len]) (fun a b ha hb => ?_) (fun p hp => ?_)
  · rw [getD_set]
    by_cases h : a = i ∧ b = j
    · obtain ⟨rfl, rfl⟩ := h
      rw [if_pos ⟨rfl, by rw [grid_len]; omega⟩, if_pos ⟨rfl, rfl⟩]
    · rw [if_neg (fun e => h (idx_inj (by omega) (by omega) e.1)), if_neg h]
      exact grid_V hn f a b ha hb
  · rw [getD_set, if_neg (fun e => hp i j hi hj e.1)]
    exact grid_out p hp
theorem mk_set {n : Nat} (f : Tab) {i j : Nat} (hi : i < n) (hj : j < n) (x : Int) : (mk n f).set (i * n + j) x = mk n (fun a b => if a = i ∧ b = j then x else f a b) := by
  refine mk_of (by rw [List.length_set, mk_len]) (fun a b ha hb => ?_)
  rw [getD_set]
  by_cases h : a = i ∧ b = j
  · obtain ⟨rfl, rfl⟩ := h
    rw [if_pos ⟨rfl, by rw [mk_len]; exact idx_lt hi hj⟩, if_pos ⟨rfl, rfl⟩]
  · rw [if_neg (fun e => h (idx_inj (by omega) (by omega) e.1)), if_neg h]
    exact mk_V n f a b ha hb
def addO (n i j : Nat) (c : Int) (o : Option Tab) : Option Tab := o.bind fun f => if c < -2000000 then none else cloO n (setT f i j c)
theorem setT_bd {n : Nat} {f : Tab} (h : Bd n f 10000000) {i j : Nat} (hi : i < n) (hj : j < n) {c : Int} (hc : ¬ c < -2000000) : Bd n (setT f i j c) 10000000 := fun a b ha hb => by
  have h1 := h a b ha hb
  have h2 := h i j hi hj
  unfold setT
  split <;> omega
set_option maxRecDepth 100000 in
set_option maxHeartbeats 1600000 in
theorem added_some (n : Nat) (f : Tab) (h1 : 1 ≤ n) (h2 : n ≤ 13) (hb : Bd n f 10000000) (i j : Nat) (hi : i < n) (hj : j < n) (c : Int) (w : World) : Calls Try.prog 62 #[.agg (dA n (grid n f)), .int .i64 i, .int .i64 j, .int .i64 c] w fun e w' => e = .returned (.agg (D n (addO n i j c (some f)))) ∧ Below w.heap.size w w' := by
  have hz := zc64
  have hn0 : decide ((n : Int) = 0) = false := decide_eq_false (by omega)
  have D0 := mkHid ((Dif.new w (n := n) (grid_len n f) 59).alloc (.cells (dA 0 zs) 59))
  have R0 := mkHid (Dif.new (w.alloc (.cells (dA n (grid n f)) 59)) (n := 0) zs_len 59)
  have B0 := mkHid (((Below.refl w.heap.size w).alloc (Nat.le_refl _) (.cells (dA n (grid n f)) 59)).alloc (by simp) (.cells (dA 0 zs) 59))
  by_cases hc : c < -2000000
  · have e : Hid (addO n i j c (some f) = none) := mkHid (by simp only [addO, Option.bind_some]; rw [if_pos hc])
    obtain ⟨G, hG⟩ : ∃ G, grid n f = G := ⟨_, rfl⟩
    rw [hG] at D0 R0 B0
    rw [hG]
    clear hG hb
    go_enter Try.func62, Try.ntmps62
    go_wp2_with (first | (refine wp_load64 D0.out rfl rfl rfl ?_))
    refine (isNone_any n G _).mono ?_
    rintro e2 w1 ⟨rfl, hb1⟩
    rw [hn0]
    have R1 : Hid (Dif w1 (w.heap.size + 1) 0 zs) := mkHid (by have := R0.out.below hb1; simpa using this)
    have B1 := mkHid (below_step B0.out hb1)
    clear hb1
    go_wp2_with (first | (refine wp_store64 R1.out zs_len rfl rfl rfl rfl ?_; intro w2 hD2 hg2))
    exact ret64 rfl hD2 rfl rfl ⟨by rw [e.out]; rfl, B1.out.grown hg2 B1.out.size (fun q hq => by cases hq; omega)⟩
  · have e : Hid (addO n i j c (some f) = (some (setT f i j c)).bind (cloO n)) := mkHid (by simp only [addO, Option.bind_some]; rw [if_neg hc])
    have HG : Hid (GoodO n (some (setT f i j c))) := mkHid fun g hg => by cases hg; exact ⟨h1, h2, setT_bd hb hi hj hc⟩
    obtain ⟨x, hx⟩ : ∃ x, f i j = x := ⟨_, rfl⟩
    have HX : Hid ((grid n f).getD (i * 13 + j) 0 = x) := mkHid ((grid_V h2 f i j hi hj).trans hx)
    have HP : Hid ((grid n f).set (i * 13 + j) (min x c) = grid n (setT f i j c)) := mkHid (by rw [grid_set h2 f hi hj, ← hx]; rfl)
    have HCL : Hid (∀ v, Calls Try.prog 40 #[.agg (dA n (grid n (setT f i j c)))] v fun e w' => e = .returned (.agg (D n (addO n i j c (some f)))) ∧ Below v.heap.size v w') := mkHid fun v => by rw [e.out]; exact closedD n (some (setT f i j c)) HG.out v
    obtain ⟨G2, hG2⟩ : ∃ G, grid n (setT f i j c) = G := ⟨_, rfl⟩
    rw [hG2] at HP HCL
    obtain ⟨G, hG⟩ : ∃ G, grid n f = G := ⟨_, rfl⟩
    rw [hG] at D0 R0 B0 HX HP
    rw [hG]
    obtain ⟨m, G3, hm, hm3⟩ := D_len n (addO n i j c (some f))
    rw [hm] at HCL
    rw [hm]
    have HM3 := mkHid hm3
    clear hG hG2 hb hx hm hm3
    have hMin : ∀ (v : World) (ts : Array TypeId) (t : TypeId) (x y : Int), (Builtin.min_ ts t #[.int .i64 x, .int .i64 y]).run Try.prog v = .ok (.int .i64 (min x y)) v := run_min_M
    go_enter Try.func62, Try.ntmps62
    go_wp2_with (first | (refine wp_load64 D0.out rfl rfl rfl ?_))
    refine (isNone_any n G _).mono ?_
    rintro e2 w1 ⟨rfl, hb1⟩
    rw [hn0]
    have R1 : Hid (Dif w1 (w.heap.size + 1) 0 zs) := mkHid (by have := R0.out.below hb1; simpa using this)
    have D1 := mkHid (D0.out.below hb1)
    have B1 := mkHid (below_step B0.out hb1)
    have c1 := D1.out.at (i := i) (j := j) (by omega) (by omega) HX.out
    have f1 := D1.out.free (o := 1 + i * 13 + j) (by omega)
    have a0 : (0 : Int) ≤ (i : Int) := by omega
    have a1 : (i : Int) < 13 := by omega
    have a2 : (0 : Int) ≤ (j : Int) := by omega
    have a3 : (j : Int) < 13 := by omega
    clear hb1 D0 R0 B0
    go_wp2_with fail
    go_region
    have D2 : Hid (Dif (w1.setCell ⟨w.heap.size, 1 + i * 13 + j, none⟩ (.int .i64 (min x c))).drew w.heap.size n G2) := mkHid (by rw [← HP.out]; exact (D1.out.put (by omega) (by omega) (min x c)).drew)
    have R2 := mkHid ((R1.out.grown (grown_setCell w1 ⟨w.heap.size, 1 + i * 13 + j, none⟩ (.int .i64 (min x c))) (some_ne (by show w.heap.size + 1 ≠ w.heap.size; omega))).drew)
    have B2 := mkHid (B1.out.setCell (p := ⟨w.heap.size, 1 + i * 13 + j, none⟩) (Nat.le_refl _) (.int .i64 (min x c))).drew
    obtain ⟨w2, hw2⟩ : ∃ w2, (w1.setCell ⟨w.heap.size, 1 + i * 13 + j, none⟩ (.int .i64 (min x c))).drew = w2 := ⟨_, rfl⟩
    rw [hw2] at D2 R2 B2
    rw [hw2]
    clear hw2 c1 f1 D1 R1 B1
    go_wp2_with (first | (refine wp_load64 D2.out rfl rfl rfl ?_))
    refine (HCL.out _).mono ?_
    rintro e2 w3 ⟨rfl, hb3⟩
    have R3 := mkHid (R2.out.below hb3)
    have B3 := mkHid (below_step B2.out hb3)
    clear hb3
    go_wp2_with (first | (refine wp_store64 R3.out HM3.out rfl rfl rfl rfl ?_; intro w4 hD4 hg4))
    exact ret64 rfl hD4 rfl rfl ⟨rfl, B3.out.grown hg4 B3.out.size (fun q hq => by cases hq; omega)⟩
end Go.Proofs.Ytgclngofigffdaa
namespace Go.Proofs.Ytgclngofigffdaa
open Go.RowKit

set_option maxRecDepth 100000 in
set_option maxHeartbeats 800000 in
theorem added_none (i j c : Int) (w : World) : Calls Try.prog 62 #[.agg (dA 0 zs), .int .i64 i, .int .i64 j, .int .i64 c] w fun e w' => e = .returned (.agg (dA 0 zs)) ∧ Below w.heap.size w w' := by
  have hz := zc64
  have D0 := mkHid ((Dif.new w (n := 0) zs_len 59).alloc (.cells (dA 0 zs) 59))
  have R0 := mkHid (Dif.new (w.alloc (.cells (dA 0 zs) 59)) (n := 0) zs_len 59)
  have B0 := mkHid (((Below.refl w.heap.size w).alloc (Nat.le_refl _) (.cells (dA 0 zs) 59)).alloc (by simp) (.cells (dA 0 zs) 59))
  go_enter Try.func62, Try.ntmps62
  go_wp2_with (first | (refine wp_load64 D0.out rfl rfl rfl ?_))
  refine (isNone_any 0 zs _).mono ?_
  rintro e2 w1 ⟨rfl, hb1⟩
  have R1 : Hid (Dif w1 (w.heap.size + 1) 0 zs) := mkHid (by have := R0.out.below hb1; simpa using this)
  have B1 := mkHid (below_step B0.out hb1)
  have hn0 : decide ((0 : Int) = 0) = true := rfl
  rw [hn0]
  clear hb1
  go_wp2_with (first | (refine wp_store64 R1.out zs_len rfl rfl rfl rfl ?_; intro w2 hD2 hg2))
  exact ret64 rfl hD2 rfl rfl ⟨rfl, B1.out.grown hg2 B1.out.size (fun q hq => by cases hq; omega)⟩
theorem addedD (n : Nat) (o : Option Tab) (ho : GoodO n o) (i j : Nat) (hi : ∀ f, o = some f → i < n ∧ j < n) (c : Int) (w : World) : Calls Try.prog 62 #[.agg (D n o), .int .i64 i, .int .i64 j, .int .i64 c] w fun e w' => e = .returned (.agg (D n (addO n i j c o))) ∧ Below w.heap.size w w' := by
  cases o with
  | none => exact added_none i j c w
  | some f =>
    obtain ⟨h1, h2, h3⟩ := ho f rfl
    obtain ⟨h4, h5⟩ := hi f rfl
    exact added_some n f h1 h2 h3 i j h4 h5 c w
theorem addO_good {n : Nat} {o : Option Tab} (h : FineO n o) {i j : Nat} (hi : ∀ f, o = some f → i < n ∧ j < n) (c : Int) : FineO n (addO n i j c o) := fun g e => by
  cases o with
  | none => cases e
  | some f =>
    obtain ⟨h1, h2, h3⟩ := h f rfl
    obtain ⟨h4, h5⟩ := hi f rfl
    simp only [addO, Option.bind_some] at e
    split at e
    · cases e
    · rename_i hc
      unfold cloO at e
      split at e
      · rename_i hcl
        cases e
        refine ⟨h1, h2, fun a b ha hb => ?_⟩
        have hd : ∀ a, a < n → setT f i j c a a ≤ 0 := fun a ha => by
          have q1 := (h3 a a ha ha).2.2 rfl
          have q2 := h3 i j h4 h5
          unfold setT
          split
          · rename_i hh
            have q3 := (h3 i j h4 h5).2.2 (hh.1.symm.trans hh.2)
            omega
          · omega
        have hcz := clo_closed hd hcl
        have q1 := clo_le n (setT f i j c) a b
        have q2 := clo_le n (setT f i j c) b a
        have q3 := closed_low hcz ha hb
        have q4 : ∀ a b, a < n → b < n → setT f i j c a b ≤ capT a b := fun a b ha hb => by
          have := h3 a b ha hb
          unfold setT
          split
          · rename_i hh; obtain ⟨rfl, rfl⟩ := hh; omega
          · omega
        have q5 := q4 a b ha hb
        have q6 := q4 b a hb ha
        have q7 := cap_le b a
        exact ⟨by omega, by omega, fun e => by subst e; exact hcz.1 a ha⟩
      · cases e
theorem D_out (n : Nat) (o : Option Tab) : ∃ G, D n o = dA (outZ o n) G ∧ G.length = 169 := by
  cases o with
  | none => exact ⟨zs, rfl, zs_len⟩
  | some f => exact ⟨grid n f, rfl, grid_len n f⟩
theorem sym_nat {n : Nat} {o : Option Tab} {i : Int} (h : symB i (outZ o n) = true) : ∃ k : Nat, i = k ∧ k < n := by
  unfold symB at h
  have h := of_decide_eq_true h
  refine ⟨i.toNat, by omega, ?_⟩
  have : outZ o n ≤ n := by unfold outZ; split <;> omega
  omega
end Go.Proofs.Ytgclngofigffdaa
namespace Go.Proofs.Ytgclngofigffdaa
open Go.RowKit

/-- Nothing is answered: the block as it was made. -/
theorem none_shut {w w1 : World} {b : Nat} (hB : Below w.heap.size w w1) (hb : w.heap.size ≤ b) (v0 v1 : Value) : Below w.heap.size w ((w1.setCell ⟨b, 0, none⟩ v0).setCell ⟨b, 1, none⟩ v1) :=
  (hB.setCell (p := ⟨b, 0, none⟩) hb _).setCell (p := ⟨b, 1, none⟩) hb _
set_option maxRecDepth 100000 in
set_option maxHeartbeats 800000 in
theorem sClose_any (z : Int) (l : List Int) (a : Option Addr) (c : Nat) (w : World) (hl : IntsAt w a l) : Calls Try.prog 17 #[.agg #[.int .i64 z, .slice a l.length c]] w fun e w' => Gives w w' e (outZ ((okO z l).bind (cloO z.toNat)) z.toNat) (outL ((okO z l).bind (cloO z.toNat)) z.toNat) := by
  have HL := mkHid hl
  have B0 := mkHid (((Below.refl w.heap.size w).alloc (Nat.le_refl _) (.cells #[.int .i64 z, .slice a l.length c] 26)).alloc (by simp) (.cells #[.int .i64 0, .slice none 0 0] 26))
  have Z0 := mkHid (Fz.new (w.alloc (.cells #[.int .i64 z, .slice a l.length c] 26)))
  have T0 := mkHid ((Fc.new w z a l.length c 26).alloc (.cells #[.int .i64 0, .slice none 0 0] 26))
  cases hok : okF z l
  · have e1 : Hid (outZ ((okO z l).bind (cloO z.toNat)) z.toNat = 0 ∧ outL ((okO z l).bind (cloO z.toNat)) z.toNat = []) := mkHid (by rw [okO_no hok]; exact ⟨rfl, rfl⟩)
    rw [e1.out.1, e1.out.2]
    have HOK := mkHid hok
    clear hok hl
    go_enter Try.func17, Try.ntmps17
    go_wp2_with fail
    refine (sOkF_any z l a c _ (HL.out.below B0.out)).mono ?_
    rintro e w1 ⟨rfl, hb1⟩
    rw [HOK.out]
    have B1 := mkHid (below_step B0.out hb1)
    have Z1 : Hid (Fz w1 (w.heap.size + 1)) := mkHid (by have := Z0.out.below hb1; simpa using this)
    obtain ⟨⟨z0, z1⟩, z2, z3⟩ := Z1.out
    clear hb1
    go_wp2
    exact bodyPost_ret (v := .agg #[.int .i64 0, .slice none 0 0]) (by simp [results, Try.results17, go_sem, z0, z1]) rfl ⟨none, 0, rfl, OwnI.nil _ _, none_shut B1.out (Nat.le_succ _) _ _⟩
  · obtain ⟨n, hn, h1, h2, hll, hmk, hfine⟩ := ok_of hok
    subst hn
    have e1 : Hid (okO n l = some (tab n l)) := mkHid (okO_yes hok)
    have HC : Hid (∀ v, IntsAt v a l → Calls Try.prog 53 #[.int .i64 n, .slice a l.length c] v fun e w' => Gives v w' e (outZ (cloO n (tab n l)) n) (outL (cloO n (tab n l)) n)) := mkHid fun v hv => by
      have := sCloseD n (tab n l) h1 h2 hfine.bd a c v (by rw [← hmk]; exact hv)
      rwa [← hmk] at this
    rw [show ((n : Int)).toNat = n from Int.toNat_natCast n, e1.out]
    simp only [Option.bind_some]
    obtain ⟨o, ho⟩ : ∃ o, cloO n (tab n l) = o := ⟨_, rfl⟩
    rw [ho] at HC
    rw [ho]
    have HOK := mkHid hok
    clear hok hl hmk hfine hll ho e1
    go_enter Try.func17, Try.ntmps17
    go_wp2_with fail
    refine (sOkF_any n l a c _ (HL.out.below B0.out)).mono ?_
    rintro e w1 ⟨rfl, hb1⟩
    rw [HOK.out]
    have B1 := mkHid (below_step B0.out hb1)
    have Z1 : Hid (Fz w1 (w.heap.size + 1)) := mkHid (by have := Z0.out.below hb1; simpa using this)
    obtain ⟨t0, t1⟩ := T0.out.below hb1
    clear hb1
    go_wp2_with fail
    refine (HC.out _ (HL.out.below B1.out)).mono ?_
    rintro e w3 ⟨ao, cap, rfl, ho, hb3⟩
    obtain ⟨⟨z0, z1⟩, z2, z3⟩ := Z1.out.below hb3
    have HE := mkHid (fun v0 v1 => Gives.shut (b := w.heap.size + 1) B1.out (Nat.le_succ _) Z1.out.lt ho hb3 v0 v1)
    clear hb3 ho t0 t1
    go_wp2
    exact bodyPost_ret (v := .agg #[.int .i64 (outZ o n), .slice ao (outL o n).length cap]) (by simp [results, Try.results17, go_sem, z0, z1]) rfl ⟨ao, cap, rfl, (HE.out _ _).1, (HE.out _ _).2⟩
end Go.Proofs.Ytgclngofigffdaa
