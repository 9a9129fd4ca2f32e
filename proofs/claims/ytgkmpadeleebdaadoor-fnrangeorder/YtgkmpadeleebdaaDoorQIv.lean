/-
  A REGION THAT DRAWS ITS ORDER, BY AN INVARIANT: one obligation for each operation, whatever has come up before it.
-/
import Derived.Test.YtgkmpadeleebdaaDoorQReg
import Derived.Deep.RegionHeld3
namespace Go.Proofs.YtgkmpadeleebdaaDoor.Q
open Go.RowKit

theorem ft {p : Prop} (e : false = true) : p := by cases e
theorem tf {p : Prop} (e : true = false) : p := by cases e
/-- What an operation waits for has come up. -/
def metB (o : Oper) (L : Array Bool) : Bool := o.after.all fun e => !Region.binds .any e || L.getD e.on false
/-- Each of the operations from number k on may come up wherever the invariant holds, and leaves it. -/
def StepsI (P : Program) (ops : Array Oper) (Q : Exit → Act → World → Prop) (I : Array Bool → Act → World → Prop) (k : Nat) : Prop :=
  ∀ i, k ≤ i → i < ops.size → ∀ L a w, I L a w → i ∈ Region.ready .any ops L → wpOp P ops Q i (fun a' w' => I (L.setIfInBounds i true) a' w') a w
theorem StepsI.nil {P : Program} {ops : Array Oper} {Q : Exit → Act → World → Prop} {I : Array Bool → Act → World → Prop} {k : Nat} (h : ops.size = k) : StepsI P ops Q I k := fun i h1 h2 => by omega
theorem StepsI.cons {P : Program} {ops : Array Oper} {Q : Exit → Act → World → Prop} {I : Array Bool → Act → World → Prop} {k : Nat} {o : Oper} (ho : ops[k]? = some o)
    (h : ∀ L a w, I L a w → L.getD k true = false → metB o L = true → ∀ K' : Act → World → Prop, Shut (∀ a w, I (L.setIfInBounds k true) a w → K' a w) → if Region.wanted o (yielded ops a.tmps) = true then Oper.wp P o a w K' Q else K' (a.put o.dst undef) w)
    (hs : StepsI P ops Q I (k + 1)) : StepsI P ops Q I k := fun i h1 h2 L a w hI hr => by
  by_cases e : i = k
  · subst e
    obtain ⟨hL, o', ho', hall⟩ := mem_ready.1 hr
    obtain rfl : o = o' := Option.some.inj (ho.symm.trans ho')
    refine wpOp_step ho fun K' hK => h L a w hI hL ?_ K' hK
    unfold metB
    rw [Array.all_eq_true']
    intro e he
    cases hb : Region.binds .any e
    · rfl
    · rw [hall e he hb]; rfl
  · exact hs i (by omega) h2 L a w hI hr
/-- How many have not come up. -/
def left (n : Nat) (L : Array Bool) : Nat := ((List.range n).filter fun i => !L.getD i true).length
theorem left_next {n i : Nat} {L : Array Bool} (hi : i < n) (h : L.getD i true = false) : left n (L.setIfInBounds i true) < left n L := by
  unfold left
  have hsub : ∀ (l : List Nat), (l.filter fun j => !(L.setIfInBounds i true).getD j true).length ≤ (l.filter fun j => !L.getD j true).length ∧ (i ∈ l → (l.filter fun j => !(L.setIfInBounds i true).getD j true).length < (l.filter fun j => !L.getD j true).length) := by
    intro l
    induction l with
    | nil => exact ⟨by simp, fun h => by cases h⟩
    | cons j l ih =>
      have hj : (L.setIfInBounds i true).getD j true = if j = i then true else L.getD j true := by
        by_cases e : j = i
        · subst e
          rw [if_pos rfl]
          simp only [Array.getD_eq_getD_getElem?, Array.getElem?_setIfInBounds]
          by_cases hs : j < L.size
          · simp [hs]
          · simp [hs]
        · rw [if_neg e]
          simp only [Array.getD_eq_getD_getElem?, Array.getElem?_setIfInBounds]
          rw [if_neg (fun h => e h.symm)]
      have h1 := ih.1
      by_cases e : j = i
      · subst e
        rw [if_pos rfl] at hj
        rw [List.filter_cons_of_neg (by rw [hj]; decide), List.filter_cons_of_pos (by rw [h]; rfl), List.length_cons]
        exact ⟨by omega, fun _ => by omega⟩
      · rw [if_neg e] at hj
        have h2 := ih.2
        cases hL : L.getD j true
        · rw [List.filter_cons_of_pos (by rw [hj, hL]; rfl), List.filter_cons_of_pos (by rw [hL]; rfl), List.length_cons, List.length_cons]
          exact ⟨by omega, fun hm => by have := h2 (by rcases List.mem_cons.1 hm with h | h; exact absurd h.symm e; exact h); omega⟩
        · rw [List.filter_cons_of_neg (by rw [hj, hL]; decide), List.filter_cons_of_neg (by rw [hL]; decide)]
          exact ⟨h1, fun hm => h2 (by rcases List.mem_cons.1 hm with h | h; exact absurd h.symm e; exact h)⟩
  exact (hsub _).2 (List.mem_range.2 hi)
theorem wpAny_inv {P : Program} {ops : Array Oper} {Q : Exit → Act → World → Prop} {I : Array Bool → Act → World → Prop} (hs : StepsI P ops Q I 0)
    (he : ∀ L a w, I L a w → Region.ready .any ops L = [] → Q .normal a w) : ∀ (fuel : Nat) L a w, left ops.size L ≤ fuel → I L a w → wpAny P .any ops Q fuel L a w
  | 0, L, a, w, hf, hI => by
    have hr : Region.ready .any ops L = [] := List.eq_nil_iff_forall_not_mem.2 fun i hi => by
      obtain ⟨hL, o, ho, _⟩ := mem_ready.1 hi
      have := left_next (Array.getElem?_eq_some_iff.1 ho).1 hL
      omega
    exact ⟨hr, he L a w hI hr⟩
  | fuel + 1, L, a, w, hf, hI => by
    refine ⟨fun h => he L a w hI h, fun i hi => ?_⟩
    obtain ⟨hL, o, ho, _⟩ := mem_ready.1 hi
    have hi' := (Array.getElem?_eq_some_iff.1 ho).1
    have hlt := left_next hi' hL
    exact wpOp_mono (fun a' w' h => wpAny_inv hs he fuel _ a' w' (by omega) h) (hs i (Nat.zero_le _) hi' L a w hI hi)
/-- THE RULE. -/
theorem wp_region_inv {P : Program} {ops : Array Oper} {Q : Exit → Act → World → Prop} {id : Nat} {a : Act} {w : World} (I : Array Bool → Act → World → Prop) (hm : P.follows .mixedOrders = true)
    (h0 : I (Array.replicate ops.size false) a w.drew) (hs : StepsI P ops Q I 0) (he : ∀ L a w, I L a w → Region.ready .any ops L = [] → Q .normal a w) : (Code.region id ops true).wp P Q a w :=
  wp_region_any hm (wpAny_inv hs he _ _ _ _ (by
    unfold left
    refine Nat.le_trans (List.length_filter_le _ _) ?_
    simp) h0)

/-- No operation waits for a later one. -/
def forthB (ops : Array Oper) : Bool := (List.range ops.size).all fun i => match ops[i]? with | some o => o.after.all fun e => !Region.binds .any e || decide (e.on < i) | none => true
/-- Where none may come up all have. -/
theorem all_up {ops : Array Oper} {L : Array Bool} (hf : forthB ops = true) {N : Nat} (hN : ops.size = N) (hr : Region.ready .any ops L = []) : ∀ i, i < N → L.getD i false = true ∨ L.size ≤ i := by
  subst hN
  intro i
  induction i using Nat.strongRecOn with
  | ind i ih =>
    intro hi
    by_cases hs : L.size ≤ i
    · exact .inr hs
    · refine .inl ?_
      cases hL : L.getD i false with
      | true => rfl
      | false =>
        exfalso
        have hL' : L.getD i true = false := by
          simp only [Array.getD_eq_getD_getElem?] at hL ⊢
          rw [Array.getElem?_eq_getElem (by omega)] at hL ⊢
          exact hL
        have hf' := List.all_eq_true.1 hf i (List.mem_range.2 hi)
        rw [Array.getElem?_eq_getElem hi] at hf'
        have : i ∈ Region.ready .any ops L := mem_ready.2 ⟨hL', ops[i], Array.getElem?_eq_getElem hi, fun e he hbd => by
          have h0 := Array.all_eq_true'.1 hf' e he
          rw [hbd] at h0
          have h1 := of_decide_eq_true (by simpa using h0 : decide (e.on < i) = true)
          rcases ih e.on h1 (by omega) with h | h
          · exact h
          · omega⟩
        rw [hr] at this
        cases this
/-- Temporaries that have been put anew. -/
def puts (a : Act) : List (Nat × Value) → Act
  | [] => a
  | (t, v) :: l => puts (a.put (some t) v) l
/-- THE RULE, the state at the region's beginning handed to the invariant. -/
theorem wp_region_inv2 {P : Program} {ops : Array Oper} {Q : Exit → Act → World → Prop} {id : Nat} {a : Act} {w : World} (I : Act → Array Bool → Act → World → Prop) (hm : P.follows .mixedOrders = true)
    (h0 : I a (Array.replicate ops.size false) a w.drew) (hs : StepsI P ops Q (I a) 0) (he : ∀ L a' v, I a L a' v → Region.ready .any ops L = [] → Q .normal a' v) : (Code.region id ops true).wp P Q a w :=
  wp_region_inv (I a) hm h0 hs he

/-- A Val in a block that may be written. -/
structure V3 (v : World) (X : Nat) (a b : Int) (s : Bool) : Prop where
  c0 : v.cell? ⟨X, 0, none⟩ = some (.int .i64 a)
  c1 : v.cell? ⟨X, 1, none⟩ = some (.int .i64 b)
  c2 : v.cell? ⟨X, 2, none⟩ = some (.bool s)
  f0 : v.frozen? ⟨X, 0, none⟩ = false
  f1 : v.frozen? ⟨X, 1, none⟩ = false
  f2 : v.frozen? ⟨X, 2, none⟩ = false
theorem V3.lt {v : World} {X : Nat} {a b : Int} {s : Bool} (h : V3 v X a b s) : X < v.heap.size := World.block_lt_of_cell? v _ h.c0
theorem V3.below {v v' : World} {X : Nat} {a b : Int} {s : Bool} (h : V3 v X a b s) (hb : Below v.heap.size v v') : V3 v' X a b s := by
  obtain ⟨hc, hf⟩ := bcell hb
  have hl := h.lt
  exact ⟨(hc _ _ hl).trans h.c0, (hc _ _ hl).trans h.c1, (hc _ _ hl).trans h.c2, (hf _ _ hl).trans h.f0, (hf _ _ hl).trans h.f1, (hf _ _ hl).trans h.f2⟩
theorem V3.drew {v : World} {X : Nat} {a b : Int} {s : Bool} (h : V3 v X a b s) : V3 v.drew X a b s := ⟨h.c0, h.c1, h.c2, h.f0, h.f1, h.f2⟩
theorem V3.new (w : World) (a b : Int) (s : Bool) (T : TypeId) : V3 (w.alloc (.cells #[.int .i64 a, .int .i64 b, .bool s] T)) w.heap.size a b s := by
  constructor <;> simp [go_sem]
theorem V3.set {v : World} {X : Nat} {a b : Int} {s : Bool} (h : V3 v X a b s) (c d : Int) (t : Bool) : V3 (((v.setCell ⟨X, 0, none⟩ (.int .i64 c)).setCell ⟨X, 1, none⟩ (.int .i64 d)).setCell ⟨X, 2, none⟩ (.bool t)) X c d t := by
  obtain ⟨c0, c1, c2, f0, f1, f2⟩ := h
  constructor <;> simp [go_sem, *]
theorem V3.other {v : World} {X Y : Nat} {a b : Int} {s : Bool} (h : V3 v X a b s) (hn : X ≠ Y) (x y z : Value) : V3 (((v.setCell ⟨Y, 0, none⟩ x).setCell ⟨Y, 1, none⟩ y).setCell ⟨Y, 2, none⟩ z) X a b s := by
  obtain ⟨c0, c1, c2, f0, f1, f2⟩ := h
  constructor <;> simp [go_sem, *]
end Go.Proofs.YtgkmpadeleebdaaDoor.Q
