/-
  THE CONTRACTS IN TERMS OF TABLES THAT MAY BE NONE; both FactsCloses.
  CONTRACTS of the program's hasSym, canSet, isGap, added, freed.
  CONTRACT of the program's FactsAdd.
  CONTRACT of the specification's FactsClose.
  A REGION THAT DRAWS ITS ORDER, BY AN INVARIANT: one obligation for each operation, whatever has come up before it.
  CONTRACT of the program's FactsBound.
  CONTRACTS of toSym, of comparing (cmp.Compare, cmp.Or), and of both SymOks, both SymLesses.
-/
import Derived.Test.YtgclngofigffdaaFo05
import Derived.Deep.RegionHeld3
namespace Go.Proofs.Ytgclngofigffdaa
open Go.RowKit

def D (n : Nat) (o : Option Tab) : Array Value := match o with | some f => dA n (grid n f) | none => dA 0 zs
def okO (z : Int) (l : List Int) : Option Tab := if okF z l = true then some (tab z.toNat l) else none
/-- A table that may be none, of a size that may be, within bounds. -/
def GoodO (n : Nat) (o : Option Tab) : Prop := ∀ f, o = some f → 1 ≤ n ∧ n ≤ 13 ∧ Bd n f 10000000
def FineO (n : Nat) (o : Option Tab) : Prop := ∀ f, o = some f → 1 ≤ n ∧ n ≤ 13 ∧ Fine n f
theorem FineO.good {n : Nat} {o : Option Tab} (h : FineO n o) : GoodO n o := fun f e => ⟨(h f e).1, (h f e).2.1, (h f e).2.2.bd⟩
theorem okO_fine (z : Int) (l : List Int) : FineO z.toNat (okO z l) := fun f e => by
  unfold okO at e
  split at e
  · rename_i h
    obtain ⟨n, rfl, h1, h2, _, _, h3⟩ := ok_of h
    cases e
    simpa using ⟨h1, h2, h3⟩
  · cases e
theorem clo_fineO {n : Nat} {o : Option Tab} (h : FineO n o) : FineO n (o.bind (cloO n)) := fun f e => by
  cases o with
  | none => cases e
  | some g =>
    obtain ⟨h1, h2, h3⟩ := h g rfl
    simp only [Option.bind_some, cloO] at e
    split at e
    · rename_i hc
      cases e
      exact ⟨h1, h2, clo_fine h3 hc⟩
    · cases e
theorem okO_yes {z : Int} {l : List Int} (h : okF z l = true) : okO z l = some (tab z.toNat l) := if_pos h
theorem okO_no {z : Int} {l : List Int} (h : okF z l = false) : okO z l = none := if_neg (by rw [h]; decide)
theorem diffsD (z : Int) (l : List Int) (a : Option Addr) (c : Nat) (w : World) (hc : l.length ≤ c) (hl : IntsAt w a l) : Calls Try.prog 39 #[.agg #[.int .i64 z, .slice a l.length c]] w fun e w' => e = .returned (.agg (D z.toNat (okO z l))) ∧ Below w.heap.size w w' := by
  cases h : okF z l
  · rw [okO_no h]; exact diffsOf_no z l a c w h hl
  · rw [okO_yes h]
    obtain ⟨n, rfl, _⟩ := ok_of h
    exact diffsOf_yes n l a c w h hc hl
theorem closedD (n : Nat) (o : Option Tab) (ho : GoodO n o) (w : World) : Calls Try.prog 40 #[.agg (D n o)] w fun e w' => e = .returned (.agg (D n (o.bind (cloO n)))) ∧ Below w.heap.size w w' := by
  cases o with
  | none => exact closed_any 0 (by omega) zs zs_len w
  | some f =>
    obtain ⟨_, h2, h3⟩ := ho f rfl
    have := closed_any n h2 (grid n f) (grid_len n f) w
    rw [impl_close h2 h3] at this
    refine this.mono fun e w' h => ⟨?_, h.2⟩
    rw [h.1]
    simp only [Option.bind_some, cloO]
    split <;> rfl
theorem factsD (n : Nat) (o : Option Tab) (ho : GoodO n o) (w : World) : Calls Try.prog 42 #[.agg (D n o)] w fun e w' => Gives w w' e (outZ o n) (outL o n) := by
  cases o with
  | none => exact facts_no w
  | some f =>
    obtain ⟨h1, h2, _⟩ := ho f rfl
    exact facts_yes n h1 h2 f w
theorem sCloseD (n : Nat) (f : Tab) (h1 : 1 ≤ n) (h2 : n ≤ 13) (hb : Bd n f 10000000) (a : Option Addr) (c : Nat) (w : World) (hA : IntsAt w a (mk n f)) : Calls Try.prog 53 #[.int .i64 n, .slice a (mk n f).length c] w fun e w' => Gives w w' e (outZ (cloO n f) n) (outL (cloO n f) n) := by
  have := sClose_of n h1 h2 (mk n f) (mk_len n f) a c w hA
  rw [spec_close h1 h2 hb] at this
  refine this.mono fun e w' h => ?_
  unfold cloO
  split
  · rename_i hc
    rw [if_pos hc] at h
    exact h
  · rename_i hc
    rw [if_neg hc] at h
    exact h
theorem outL_len {n : Nat} {o : Option Tab} (h : GoodO n o) : (outL o n).length ≤ 169 := by
  cases o with
  | none => simp [outL]
  | some f => simp only [outL, mk_len]; exact sq_le (h f rfl).2.1
theorem Gives.shut {w w4 w5 : World} {b : Nat} {ao : Option Addr} {cap : Nat} {l : List Int} (hbel : Below w.heap.size w w4) (hb : w.heap.size ≤ b) (hb4 : b < w4.heap.size) (h : OwnI w5 w4.heap.size (.slice ao l.length cap) l) (h5 : Below w4.heap.size w4 w5) (v0 v1 : Value) :
    OwnI ((w5.setCell ⟨b, 0, none⟩ v0).setCell ⟨b, 1, none⟩ v1) w.heap.size (.slice ao l.length cap) l ∧ Below w.heap.size w ((w5.setCell ⟨b, 0, none⟩ v0).setCell ⟨b, 1, none⟩ v1) := by
  have hlo : ∀ q, Value.ownBlock (.slice ao l.length cap) = some q → some b ≠ some q := fun q hq => some_ne (by have := h.lt hq; omega)
  exact ⟨((h.mono hbel.size).grown (grown_setCell _ ⟨b, 0, none⟩ _) hlo).grown (grown_setCell _ ⟨b, 1, none⟩ _) hlo, ((below_step hbel h5).setCell (p := ⟨b, 0, none⟩) hb _).setCell (p := ⟨b, 1, none⟩) hb _⟩
theorem Gives.mono {w w1 w' : World} {e : Ending} {z : Int} {l : List Int} (h : Gives w1 w' e z l) (hb : Below w.heap.size w w1) : Gives w w' e z l := by
  obtain ⟨ao, cap, h1, h2, h3⟩ := h
  exact ⟨ao, cap, h1, h2.mono hb.size, below_step hb h3⟩
set_option maxRecDepth 100000 in
set_option maxHeartbeats 800000 in
theorem iClose_any (z : Int) (l : List Int) (a : Option Addr) (c : Nat) (w : World) (hc : l.length ≤ c) (hl : IntsAt w a l) : Calls Try.prog 12 #[.agg #[.int .i64 z, .slice a l.length c]] w fun e w' => Gives w w' e (outZ ((okO z l).bind (cloO z.toNat)) z.toNat) (outL ((okO z l).bind (cloO z.toNat)) z.toNat) := by
  have HC := mkHid hc
  have HL := mkHid hl
  have HF := mkHid (okO_fine z l)
  have HG := mkHid (clo_fineO (okO_fine z l))
  have B0 := mkHid (((Below.refl w.heap.size w).alloc (Nat.le_refl _) (.cells #[.int .i64 z, .slice a l.length c] 26)).alloc (by simp) (.cells #[.int .i64 0, .slice none 0 0] 26))
  have Z0 := mkHid (Fz.new (w.alloc (.cells #[.int .i64 z, .slice a l.length c] 26)))
  obtain ⟨n, hn⟩ : ∃ n, z.toNat = n := ⟨_, rfl⟩
  obtain ⟨o, ho⟩ : ∃ o, okO z l = o := ⟨_, rfl⟩
  have HD : Hid (∀ v, IntsAt v a l → Calls Try.prog 39 #[.agg #[.int .i64 z, .slice a l.length c]] v fun e w' => e = .returned (.agg (D n o)) ∧ Below v.heap.size v w') := mkHid fun v hv => by rw [← ho, ← hn]; exact diffsD z l a c v HC.out hv
  rw [hn, ho] at HF HG
  rw [hn, ho]
  clear hc hl hn ho
  go_enter Try.func12, Try.ntmps12
  go_wp2_with fail
  refine (HD.out _ (HL.out.below B0.out)).mono ?_
  rintro e w1 ⟨rfl, hb1⟩
  have B1 := mkHid (below_step B0.out hb1)
  have Z1 : Hid (Fz w1 (w.heap.size + 1)) := mkHid (by have := Z0.out.below hb1; simpa using this)
  clear hb1 B0 Z0
  go_wp2_with fail
  refine (closedD n o HF.out.good _).mono ?_
  rintro e w2 ⟨rfl, hb2⟩
  have B2 := mkHid (below_step B1.out hb2)
  have Z2 := mkHid (Z1.out.below hb2)
  clear hb2 B1 Z1
  go_wp2_with fail
  refine (factsD n _ HG.out.good _).mono ?_
  rintro e w3 ⟨ao, cap, rfl, ho, hb3⟩
  obtain ⟨⟨z0, z1⟩, z2, z3⟩ := Z2.out.below hb3
  have HE := mkHid (fun v0 v1 => Gives.shut (b := w.heap.size + 1) B2.out (Nat.le_succ _) Z2.out.lt ho hb3 v0 v1)
  clear hb3 ho B2 Z2
  go_wp2
  refine bodyPost_ret (v := .agg #[.int .i64 (outZ (o.bind (cloO n)) n), .slice ao (outL (o.bind (cloO n)) n).length cap]) (by simp [results, Try.results12, go_sem, z0, z1]) rfl ⟨ao, cap, rfl, (HE.out _ _).1, (HE.out _ _).2⟩
end Go.Proofs.Ytgclngofigffdaa
namespace Go.Proofs.Ytgclngofigffdaa
open Go.RowKit

theorem wpo_load64 {op : Oper} {a : Act} {w : World} {K : Act → World → Prop} {Q : Exit → Act → World → Prop} {x : Operand} {b : Nat} {n : Int} {G : List Int} (hD : Dif w b n G) (ho : op.op = .load 59 x)
    (hx : a.eval x = .pointer (some ⟨b, 0, none⟩)) (h : K (a.put op.dst (.agg (dA n G))) w) : op.wp Try.prog a w K Q :=
  wp_load_mid 59 x ho b 0 hx (dL n G) _ hD.range Try.underlying59 rfl (by rw [dL_len hD.len]; exact size64) h
theorem grid_set {n : Nat} (hn : n ≤ 13) (f : Tab) {i j : Nat} (hi : i < n) (hj : j < n) (x : Int) : (grid n f).set (i * 13 + j) x = grid n (fun a b => if a = i ∧ b = j then x else f a b) := by
  refine grid_of hn (by rw [List.length_set, grid_len]) (fun a b ha hb => ?_) (fun p hp => ?_)
  · rw [getD_set]
    by_cases h : a = i ∧ b = j
    · obtain ⟨rfl, rfl⟩ := h
      rw [if_pos ⟨rfl, by rw [grid_len]; omega⟩, if_pos ⟨rfl, rfl⟩]
    · rw [if_neg (fun e => h (idx_inj (by omega) (by omega) e.1)), if_neg h]
      exact grid_V hn f a b ha hb
  · rw [getD_set, if_neg (fun e => hp i j hi hj e.1)]
    exact grid_out p hp
theorem mk_set {n : Nat} (f : Tab) {i j : Nat} (hi : i < n) (hj : j < n) (x : Int) : (mk n f).set (i * n + j) x = mk n (fun a b => if a = i ∧ b = j then x else f a b) := by
  refine mk_of (by rw [List.length_set, mk_len]) (fun a b ha hb => ?_)
  rw [getD_set]
  by_cases h : a = i ∧ b = j
  · obtain ⟨rfl, rfl⟩ := h
    rw [if_pos ⟨rfl, by rw [mk_len]; exact idx_lt hi hj⟩, if_pos ⟨rfl, rfl⟩]
  · rw [if_neg (fun e => h (idx_inj (by omega) (by omega) e.1)), if_neg h]
    exact mk_V n f a b ha hb
end Go.Proofs.Ytgclngofigffdaa
namespace Go.Proofs.Ytgclngofigffdaa
open Go.RowKit

theorem D_out (n : Nat) (o : Option Tab) : ∃ G, D n o = dA (outZ o n) G ∧ G.length = 169 := by
  cases o with
  | none => exact ⟨zs, rfl, zs_len⟩
  | some f => exact ⟨grid n f, rfl, grid_len n f⟩
end Go.Proofs.Ytgclngofigffdaa
namespace Go.Proofs.Ytgclngofigffdaa
open Go.RowKit

/-- Nothing is answered: the block as it was made. -/
theorem none_shut {w w1 : World} {b : Nat} (hB : Below w.heap.size w w1) (hb : w.heap.size ≤ b) (v0 v1 : Value) : Below w.heap.size w ((w1.setCell ⟨b, 0, none⟩ v0).setCell ⟨b, 1, none⟩ v1) :=
  (hB.setCell (p := ⟨b, 0, none⟩) hb _).setCell (p := ⟨b, 1, none⟩) hb _
set_option maxRecDepth 100000 in
set_option maxHeartbeats 800000 in
theorem sClose_any (z : Int) (l : List Int) (a : Option Addr) (c : Nat) (w : World) (hl : IntsAt w a l) : Calls Try.prog 17 #[.agg #[.int .i64 z, .slice a l.length c]] w fun e w' => Gives w w' e (outZ ((okO z l).bind (cloO z.toNat)) z.toNat) (outL ((okO z l).bind (cloO z.toNat)) z.toNat) := by
  have HL := mkHid hl
  have B0 := mkHid (((Below.refl w.heap.size w).alloc (Nat.le_refl _) (.cells #[.int .i64 z, .slice a l.length c] 26)).alloc (by simp) (.cells #[.int .i64 0, .slice none 0 0] 26))
  have Z0 := mkHid (Fz.new (w.alloc (.cells #[.int .i64 z, .slice a l.length c] 26)))
  have T0 := mkHid ((Fc.new w z a l.length c 26).alloc (.cells #[.int .i64 0, .slice none 0 0] 26))
  cases hok : okF z l
  · have e1 : Hid (outZ ((okO z l).bind (cloO z.toNat)) z.toNat = 0 ∧ outL ((okO z l).bind (cloO z.toNat)) z.toNat = []) := mkHid (by rw [okO_no hok]; exact ⟨rfl, rfl⟩)
    rw [e1.out.1, e1.out.2]
    have HOK := mkHid hok
    clear hok hl
    go_enter Try.func17, Try.ntmps17
    go_wp2_with fail
    refine (sOkF_any z l a c _ (HL.out.below B0.out)).mono ?_
    rintro e w1 ⟨rfl, hb1⟩
    rw [HOK.out]
    have B1 := mkHid (below_step B0.out hb1)
    have Z1 : Hid (Fz w1 (w.heap.size + 1)) := mkHid (by have := Z0.out.below hb1; simpa using this)
    obtain ⟨⟨z0, z1⟩, z2, z3⟩ := Z1.out
    clear hb1
    go_wp2
    exact bodyPost_ret (v := .agg #[.int .i64 0, .slice none 0 0]) (by simp [results, Try.results17, go_sem, z0, z1]) rfl ⟨none, 0, rfl, OwnI.nil _ _, none_shut B1.out (Nat.le_succ _) _ _⟩
  · obtain ⟨n, hn, h1, h2, hll, hmk, hfine⟩ := ok_of hok
    subst hn
    have e1 : Hid (okO n l = some (tab n l)) := mkHid (okO_yes hok)
    have HC : Hid (∀ v, IntsAt v a l → Calls Try.prog 53 #[.int .i64 n, .slice a l.length c] v fun e w' => Gives v w' e (outZ (cloO n (tab n l)) n) (outL (cloO n (tab n l)) n)) := mkHid fun v hv => by
      have := sCloseD n (tab n l) h1 h2 hfine.bd a c v (by rw [← hmk]; exact hv)
      rwa [← hmk] at this
    rw [show ((n : Int)).toNat = n from Int.toNat_natCast n, e1.out]
    simp only [Option.bind_some]
    obtain ⟨o, ho⟩ : ∃ o, cloO n (tab n l) = o := ⟨_, rfl⟩
    rw [ho] at HC
    rw [ho]
    have HOK := mkHid hok
    clear hok hl hmk hfine hll ho e1
    go_enter Try.func17, Try.ntmps17
    go_wp2_with fail
    refine (sOkF_any n l a c _ (HL.out.below B0.out)).mono ?_
    rintro e w1 ⟨rfl, hb1⟩
    rw [HOK.out]
    have B1 := mkHid (below_step B0.out hb1)
    have Z1 : Hid (Fz w1 (w.heap.size + 1)) := mkHid (by have := Z0.out.below hb1; simpa using this)
    obtain ⟨t0, t1⟩ := T0.out.below hb1
    clear hb1
    go_wp2_with fail
    refine (HC.out _ (HL.out.below B1.out)).mono ?_
    rintro e w3 ⟨ao, cap, rfl, ho, hb3⟩
    obtain ⟨⟨z0, z1⟩, z2, z3⟩ := Z1.out.below hb3
    have HE := mkHid (fun v0 v1 => Gives.shut (b := w.heap.size + 1) B1.out (Nat.le_succ _) Z1.out.lt ho hb3 v0 v1)
    clear hb3 ho t0 t1
    go_wp2
    exact bodyPost_ret (v := .agg #[.int .i64 (outZ o n), .slice ao (outL o n).length cap]) (by simp [results, Try.results17, go_sem, z0, z1]) rfl ⟨ao, cap, rfl, (HE.out _ _).1, (HE.out _ _).2⟩
end Go.Proofs.Ytgclngofigffdaa
namespace Go.Proofs.Ytgclngofigffdaa
open Go.RowKit

theorem ft {p : Prop} (e : false = true) : p := by cases e
theorem tf {p : Prop} (e : true = false) : p := by cases e
/-- What an operation waits for has come up. -/
def metB (o : Oper) (L : Array Bool) : Bool := o.after.all fun e => !Region.binds .any e || L.getD e.on false
/-- Each of the operations from number k on may come up wherever the invariant holds, and leaves it. -/
def StepsI (P : Program) (ops : Array Oper) (Q : Exit → Act → World → Prop) (I : Array Bool → Act → World → Prop) (k : Nat) : Prop :=
  ∀ i, k ≤ i → i < ops.size → ∀ L a w, I L a w → i ∈ Region.ready .any ops L → wpOp P ops Q i (fun a' w' => I (L.setIfInBounds i true) a' w') a w
theorem StepsI.nil {P : Program} {ops : Array Oper} {Q : Exit → Act → World → Prop} {I : Array Bool → Act → World → Prop} {k : Nat} (h : ops.size = k) : StepsI P ops Q I k := fun i h1 h2 => by omega
theorem StepsI.cons {P : Program} {ops : Array Oper} {Q : Exit → Act → World → Prop} {I : Array Bool → Act → World → Prop} {k : Nat} {o : Oper} (ho : ops[k]? = some o)
    (h : ∀ L a w, I L a w → L.getD k true = false → metB o L = true → ∀ K' : Act → World → Prop, Shut (∀ a w, I (L.setIfInBounds k true) a w → K' a w) → if Region.wanted o (yielded ops a.tmps) = true then Oper.wp P o a w K' Q else K' (a.put o.dst undef) w)
    (hs : StepsI P ops Q I (k + 1)) : StepsI P ops Q I k := fun i h1 h2 L a w hI hr => by
  by_cases e : i = k
  · subst e
    obtain ⟨hL, o', ho', hall⟩ := mem_ready.1 hr
    obtain rfl : o = o' := Option.some.inj (ho.symm.trans ho')
    refine wpOp_step ho fun K' hK => h L a w hI hL ?_ K' hK
    unfold metB
    rw [Array.all_eq_true']
    intro e he
    cases hb : Region.binds .any e
    · rfl
    · rw [hall e he hb]; rfl
  · exact hs i (by omega) h2 L a w hI hr
/-- How many have not come up. -/
def left (n : Nat) (L : Array Bool) : Nat := ((List.range n).filter fun i => !L.getD i true).length
theorem left_next {n i : Nat} {L : Array Bool} (hi : i < n) (h : L.getD i true = false) : left n (L.setIfInBounds i true) < left n L := by
  unfold left
  have hsub : ∀ (l : List Nat), (l.filter fun j => !(L.setIfInBounds i true).getD j true).length ≤ (l.filter fun j => !L.getD j true).length ∧ (i ∈ l → (l.filter fun j => !(L.setIfInBounds i true).getD j true).length < (l.filter fun j => !L.getD j true).length) := by
    intro l
    induction l with
    | nil => exact ⟨by simp, fun h => by cases h⟩
    | cons j l ih =>
      have hj : (L.setIfInBounds i true).getD j true = if j = i then true else L.getD j true := by
        by_cases e : j = i
        · subst e
          rw [if_pos rfl]
          simp only [Array.getD_eq_getD_getElem?, Array.getElem?_setIfInBounds]
          by_cases hs : j < L.size
          · simp [hs]
          · simp [hs]
        · rw [if_neg e]
          simp only [Array.getD_eq_getD_getElem?, Array.getElem?_setIfInBounds]
          rw [if_neg (fun h => e h.symm)]
      have h1 := ih.1
      by_cases e : j = i
      · subst e
        rw [if_pos rfl] at hj
        rw [List.filter_cons_of_neg (by rw [hj]; decide), List.filter_cons_of_pos (by rw [h]; rfl), List.length_cons]
        exact ⟨by omega, fun _ => by omega⟩
      · rw [if_neg e] at hj
        have h2 := ih.2
        cases hL : L.getD j true
        · rw [List.filter_cons_of_pos (by rw [hj, hL]; rfl), List.filter_cons_of_pos (by rw [hL]; rfl), List.length_cons, List.length_cons]
          exact ⟨by omega, fun hm => by have := h2 (by rcases List.mem_cons.1 hm with h | h; exact absurd h.symm e; exact h); omega⟩
        · rw [List.filter_cons_of_neg (by rw [hj, hL]; decide), List.filter_cons_of_neg (by rw [hL]; decide)]
          exact ⟨h1, fun hm => h2 (by rcases List.mem_cons.1 hm with h | h; exact absurd h.symm e; exact h)⟩
  exact (hsub _).2 (List.mem_range.2 hi)
theorem wpAny_inv {P : Program} {ops : Array Oper} {Q : Exit → Act → World → Prop} {I : Array Bool → Act → World → Prop} (hs : StepsI P ops Q I 0)
    (he : ∀ L a w, I L a w → Region.ready .any ops L = [] → Q .normal a w) : ∀ (fuel : Nat) L a w, left ops.size L ≤ fuel → I L a w → wpAny P .any ops Q fuel L a w
  | 0, L, a, w, hf, hI => by
    have hr : Region.ready .any ops L = [] := List.eq_nil_iff_forall_not_mem.2 fun i hi => by
      obtain ⟨hL, o, ho, _⟩ := mem_ready.1 hi
      have := left_next (Array.getElem?_eq_some_iff.1 ho).1 hL
      omega
    exact ⟨hr, he L a w hI hr⟩
  | fuel + 1, L, a, w, hf, hI => by
    refine ⟨fun h => he L a w hI h, fun i hi => ?_⟩
    obtain ⟨hL, o, ho, _⟩ := mem_ready.1 hi
    have hi' := (Array.getElem?_eq_some_iff.1 ho).1
    have hlt := left_next hi' hL
    exact wpOp_mono (fun a' w' h => wpAny_inv hs he fuel _ a' w' (by omega) h) (hs i (Nat.zero_le _) hi' L a w hI hi)
/-- THE RULE. -/
theorem wp_region_inv {P : Program} {ops : Array Oper} {Q : Exit → Act → World → Prop} {id : Nat} {a : Act} {w : World} (I : Array Bool → Act → World → Prop) (hm : P.follows .mixedOrders = true)
    (h0 : I (Array.replicate ops.size false) a w.drew) (hs : StepsI P ops Q I 0) (he : ∀ L a w, I L a w → Region.ready .any ops L = [] → Q .normal a w) : (Code.region id ops true).wp P Q a w :=
  wp_region_any hm (wpAny_inv hs he _ _ _ _ (by
    unfold left
    refine Nat.le_trans (List.length_filter_le _ _) ?_
    simp) h0)

/-- No operation waits for a later one. -/
def forthB (ops : Array Oper) : Bool := (List.range ops.size).all fun i => match ops[i]? with | some o => o.after.all fun e => !Region.binds .any e || decide (e.on < i) | none => true
/-- Where none may come up all have. -/
theorem all_up {ops : Array Oper} {L : Array Bool} (hf : forthB ops = true) {N : Nat} (hN : ops.size = N) (hr : Region.ready .any ops L = []) : ∀ i, i < N → L.getD i false = true ∨ L.size ≤ i := by
  subst hN
  intro i
  induction i using Nat.strongRecOn with
  | ind i ih =>
    intro hi
    by_cases hs : L.size ≤ i
    · exact .inr hs
    · refine .inl ?_
      cases hL : L.getD i false with
      | true => rfl
      | false =>
        exfalso
        have hL' : L.getD i true = false := by
          simp only [Array.getD_eq_getD_getElem?] at hL ⊢
          rw [Array.getElem?_eq_getElem (by omega)] at hL ⊢
          exact hL
        have hf' := List.all_eq_true.1 hf i (List.mem_range.2 hi)
        rw [Array.getElem?_eq_getElem hi] at hf'
        have : i ∈ Region.ready .any ops L := mem_ready.2 ⟨hL', ops[i], Array.getElem?_eq_getElem hi, fun e he hbd => by
          have h0 := Array.all_eq_true'.1 hf' e he
          rw [hbd] at h0
          have h1 := of_decide_eq_true (by simpa using h0 : decide (e.on < i) = true)
          rcases ih e.on h1 (by omega) with h | h
          · exact h
          · omega⟩
        rw [hr] at this
        cases this
/-- Temporaries that have been put anew. -/
def puts (a : Act) : List (Nat × Value) → Act
  | [] => a
  | (t, v) :: l => puts (a.put (some t) v) l
/-- THE RULE, the state at the region's beginning handed to the invariant. -/
theorem wp_region_inv2 {P : Program} {ops : Array Oper} {Q : Exit → Act → World → Prop} {id : Nat} {a : Act} {w : World} (I : Act → Array Bool → Act → World → Prop) (hm : P.follows .mixedOrders = true)
    (h0 : I a (Array.replicate ops.size false) a w.drew) (hs : StepsI P ops Q (I a) 0) (he : ∀ L a' v, I a L a' v → Region.ready .any ops L = [] → Q .normal a' v) : (Code.region id ops true).wp P Q a w :=
  wp_region_inv (I a) hm h0 hs he

/-- A call whose answer (Facts) goes into a box that is made in whatever place. -/
structure Cal (w0 : World) (f al st : Bool) (X : Nat) (sa : Option Addr) (sc : Nat) (rz : Int) (rl : List Int) (v : World) : Prop where
  bel : Below w0.heap.size w0 v
  sf : st = true → f = true ∧ al = true
  own : f = true → OwnI v w0.heap.size (.slice sa rl.length sc) rl
  box : al = true → w0.heap.size ≤ X ∧ (st = false → Fz v X) ∧ (st = true → Fc v X rz sa rl.length sc)
  ne : f = true → al = true → ∀ q, Value.ownBlock (.slice sa rl.length sc) = some q → X ≠ q
theorem Cal.start {w0 v : World} {X : Nat} {sa : Option Addr} {sc : Nat} {rz : Int} {rl : List Int} (h : Below w0.heap.size w0 v) : Cal w0 false false false X sa sc rz rl v :=
  ⟨h, fun e => (by cases e), fun e => (by cases e), fun e => (by cases e), fun e => (by cases e)⟩
theorem Cal.below {w0 v v' : World} {f al st : Bool} {X : Nat} {sa : Option Addr} {sc : Nat} {rz : Int} {rl : List Int} (h : Cal w0 f al st X sa sc rz rl v) (hb : Below v.heap.size v v') : Cal w0 f al st X sa sc rz rl v' :=
  ⟨below_step h.bel hb, h.sf, fun e => (h.own e).below hb, fun e => ⟨(h.box e).1, fun e2 => ((h.box e).2.1 e2).below hb, fun e2 => ((h.box e).2.2 e2).below hb⟩, h.ne⟩
theorem Cal.alloc {w0 v : World} {f st : Bool} {X : Nat} {sa : Option Addr} {sc : Nat} {rz : Int} {rl : List Int} (h : Cal w0 f false st X sa sc rz rl v) : Cal w0 f true st v.heap.size sa sc rz rl (v.alloc (.cells #[.int .i64 0, .slice none 0 0] 26)) := by
  have e : st = false := by cases hs : st; rfl; exact absurd (h.sf hs).2 (by decide)
  subst e
  have hb := (Below.refl v.heap.size v).alloc (Nat.le_refl _) (.cells #[.int .i64 0, .slice none 0 0] 26)
  exact ⟨below_step h.bel hb, fun e => (by cases e), fun e => (h.own e).below hb, fun _ => ⟨h.bel.size, fun _ => Fz.new v, fun e => (by cases e)⟩, fun e _ q hq => by have := ((h.own e).lt hq).2; omega⟩
theorem Cal.store {w0 v : World} {X : Nat} {sa : Option Addr} {sc : Nat} {rz : Int} {rl : List Int} (h : Cal w0 true true false X sa sc rz rl v) : Cal w0 true true true X sa sc rz rl ((v.setCell ⟨X, 0, none⟩ (.int .i64 rz)).setCell ⟨X, 1, none⟩ (.slice sa rl.length sc)) := by
  have hz := (h.box rfl).2.1 rfl
  have hx := (h.box rfl).1
  have hg1 := grown_setCell v ⟨X, 0, none⟩ (.int .i64 rz)
  have hg2 := grown_setCell (v.setCell ⟨X, 0, none⟩ (.int .i64 rz)) ⟨X, 1, none⟩ (.slice sa rl.length sc)
  refine ⟨(h.bel.setCell (p := ⟨X, 0, none⟩) hx _).setCell (p := ⟨X, 1, none⟩) hx _, fun _ => ⟨rfl, rfl⟩, fun _ => ((h.own rfl).grown hg1 (fun q hq => some_ne (h.ne rfl rfl q hq))).grown hg2 (fun q hq => some_ne (h.ne rfl rfl q hq)), fun _ => ⟨hx, fun e => (by cases e), fun _ => ?_⟩, h.ne⟩
  obtain ⟨⟨z0, z1⟩, z2, z3⟩ := hz
  constructor <;> simp [go_sem, z0, z1]
theorem Cal.all {w0 v : World} {X : Nat} {sa : Option Addr} {sc : Nat} {rz : Int} {rl : List Int} (h : Cal w0 true true true X sa sc rz rl v) : Below w0.heap.size w0 v ∧ w0.heap.size ≤ X ∧ Fc v X rz sa rl.length sc ∧ OwnI v w0.heap.size (.slice sa rl.length sc) rl ∧ ∀ q, Value.ownBlock (.slice sa rl.length sc) = some q → X ≠ q :=
  ⟨h.bel, (h.box rfl).1, (h.box rfl).2.2 rfl, h.own rfl, h.ne rfl rfl⟩
/-- Two tables made and stored in whatever order. -/
structure Two (w0 : World) (p q sp sq : Bool) (X Y : Nat) (n : Int) (G : List Int) (m : Int) (H : List Int) (w : World) : Prop where
  bel : Below w0.heap.size w0 w
  sa : sp = true → p = true
  sb : sq = true → q = true
  a : p = true → w0.heap.size ≤ X ∧ Dif w X (if sp then n else 0) (if sp then G else zs)
  b : q = true → w0.heap.size ≤ Y ∧ Dif w Y (if sq then m else 0) (if sq then H else zs)
  ne : p = true → q = true → X ≠ Y
theorem Two.start {w0 w : World} {X Y : Nat} {n : Int} {G : List Int} {m : Int} {H : List Int} (h : Below w0.heap.size w0 w) : Two w0 false false false false X Y n G m H w :=
  ⟨h, fun e => e, fun e => e, fun e => (by cases e), fun e => (by cases e), fun e => (by cases e)⟩
theorem Two.below {w0 w w' : World} {p q sp sq : Bool} {X Y : Nat} {n : Int} {G : List Int} {m : Int} {H : List Int} (h : Two w0 p q sp sq X Y n G m H w) (hb : Below w.heap.size w w') : Two w0 p q sp sq X Y n G m H w' :=
  ⟨below_step h.bel hb, h.sa, h.sb, fun e => ⟨(h.a e).1, (h.a e).2.below hb⟩, fun e => ⟨(h.b e).1, (h.b e).2.below hb⟩, h.ne⟩
theorem Two.allocA {w0 w : World} {q sp sq : Bool} {X Y : Nat} {n : Int} {G : List Int} {m : Int} {H : List Int} (h : Two w0 false q sp sq X Y n G m H w) : Two w0 true q sp sq w.heap.size Y n G m H (w.alloc (.cells (dA 0 zs) 59)) := by
  have e : sp = false := by cases hs : sp; rfl; exact absurd (h.sa hs) (by decide)
  subst e
  have hb := (Below.refl w.heap.size w).alloc (Nat.le_refl _) (.cells (dA 0 zs) 59)
  exact ⟨below_step h.bel hb, fun e => (by cases e), h.sb, fun _ => ⟨h.bel.size, Dif.new w zs_len 59⟩, fun e => ⟨(h.b e).1, (h.b e).2.below hb⟩, fun _ e => by have := (h.b e).2.lt; omega⟩
theorem Two.allocB {w0 w : World} {p sp sq : Bool} {X Y : Nat} {n : Int} {G : List Int} {m : Int} {H : List Int} (h : Two w0 p false sp sq X Y n G m H w) : Two w0 p true sp sq X w.heap.size n G m H (w.alloc (.cells (dA 0 zs) 59)) := by
  have e : sq = false := by cases hs : sq; rfl; exact absurd (h.sb hs) (by decide)
  subst e
  have hb := (Below.refl w.heap.size w).alloc (Nat.le_refl _) (.cells (dA 0 zs) 59)
  exact ⟨below_step h.bel hb, h.sa, fun e => (by cases e), fun e => ⟨(h.a e).1, (h.a e).2.below hb⟩, fun _ => ⟨h.bel.size, Dif.new w zs_len 59⟩, fun e _ => by have := (h.a e).2.lt; omega⟩
theorem Two.storeA {w0 w : World} {q sp sq : Bool} {X Y : Nat} {n : Int} {G : List Int} {m : Int} {H : List Int} (hG : G.length = 169) (h : Two w0 true q sp sq X Y n G m H w) : Two w0 true q true sq X Y n G m H (w.setCells X 0 (dL n G)) :=
  ⟨Below.setCells h.bel (h.a rfl).1 _ _, fun _ => rfl, h.sb, fun _ => ⟨(h.a rfl).1, by simpa using (h.a rfl).2.stored (n' := n) hG⟩, fun e => ⟨(h.b e).1, (h.b e).2.grown (grown_setCells X _ _ _) (some_ne (fun e2 => h.ne rfl e e2.symm))⟩, h.ne⟩
theorem Two.storeB {w0 w : World} {p sp sq : Bool} {X Y : Nat} {n : Int} {G : List Int} {m : Int} {H : List Int} (hH : H.length = 169) (h : Two w0 p true sp sq X Y n G m H w) : Two w0 p true sp true X Y n G m H (w.setCells Y 0 (dL m H)) :=
  ⟨Below.setCells h.bel (h.b rfl).1 _ _, h.sa, fun _ => rfl, fun e => ⟨(h.a e).1, (h.a e).2.grown (grown_setCells Y _ _ _) (some_ne (fun e2 => h.ne e rfl e2))⟩, fun _ => ⟨(h.b rfl).1, by simpa using (h.b rfl).2.stored (n' := m) hH⟩, h.ne⟩
theorem Two.all {w0 w : World} {X Y : Nat} {n : Int} {G : List Int} {m : Int} {H : List Int} (h : Two w0 true true true true X Y n G m H w) : Below w0.heap.size w0 w ∧ w0.heap.size ≤ X ∧ w0.heap.size ≤ Y ∧ X ≠ Y ∧ Dif w X n G ∧ Dif w Y m H :=
  ⟨h.bel, (h.a rfl).1, (h.b rfl).1, h.ne rfl rfl, by simpa using (h.a rfl).2, by simpa using (h.b rfl).2⟩
end Go.Proofs.Ytgclngofigffdaa
namespace Go.Proofs.Ytgclngofigffdaa
open Go.RowKit

theorem Box.grown {w w' : World} {b : Nat} {x y : Int} {row : Option Nat} (h : Box w b x y) (hg : w.grownBy w' row) (hr : some b ≠ row) : Box w' b x y :=
  ⟨(hg.cell_far ⟨b, 0, none⟩ h.lt hr).trans h.1, (hg.cell_far ⟨b, 1, none⟩ h.lt hr).trans h.2.1, (hg.frozen_far ⟨b, 0, none⟩ h.lt hr).trans h.2.2.1, (hg.frozen_far ⟨b, 1, none⟩ h.lt hr).trans h.2.2.2⟩
end Go.Proofs.Ytgclngofigffdaa
namespace Go.Proofs.Ytgclngofigffdaa
open Go.RowKit

end Go.Proofs.Ytgclngofigffdaa
