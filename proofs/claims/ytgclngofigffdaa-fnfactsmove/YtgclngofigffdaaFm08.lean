/-
  A REGION THAT DRAWS ITS ORDER, BY AN INVARIANT: one obligation for each operation, whatever has come up before it.
-/
import Derived.Test.YtgclngofigffdaaFm06
import Derived.Deep.RegionHeld3
namespace Go.Proofs.Ytgclngofigffdaa
open Go.RowKit

theorem ft {p : Prop} (e : false = true) : p := by cases e
/-- What an operation waits for has come up. -/
def metB (o : Oper) (L : Array Bool) : Bool := o.after.all fun e => !Region.binds .any e || L.getD e.on false
/-- Each of the operations from number k on may come up wherever the invariant holds, and leaves it. -/
def StepsI (P : Program) (ops : Array Oper) (Q : Exit → Act → World → Prop) (I : Array Bool → Act → World → Prop) (k : Nat) : Prop :=
  ∀ i, k ≤ i → i < ops.size → ∀ L a w, I L a w → i ∈ Region.ready .any ops L → wpOp P ops Q i (fun a' w' => I (L.setIfInBounds i true) a' w') a w
theorem StepsI.nil {P : Program} {ops : Array Oper} {Q : Exit → Act → World → Prop} {I : Array Bool → Act → World → Prop} {k : Nat} (h : ops.size = k) : StepsI P ops Q I k := fun i h1 h2 => by omega
theorem StepsI.cons {P : Program} {ops : Array Oper} {Q : Exit → Act → World → Prop} {I : Array Bool → Act → World → Prop} {k : Nat} {o : Oper} (ho : ops[k]? = some o)
    (h : ∀ L a w, I L a w → L.getD k true = false → metB o L = true → ∀ K' : Act → World → Prop, Shut (∀ a w, I (L.setIfInBounds k true) a w → K' a w) → if Region.wanted o (yielded ops a.tmps) = true then Oper.wp P o a w K' Q else K' (a.put o.dst undef) w)
    (hs : StepsI P ops Q I (k + 1)) : StepsI P ops Q I k := fun i h1 h2 L a w hI hr => by
  by_cases e : i = k
  · subst e
    obtain ⟨hL, o', ho', hall⟩ := mem_ready.1 hr
    obtain rfl : o = o' := Option.some.inj (ho.symm.trans ho')
    refine wpOp_step ho fun K' hK => h L a w hI hL ?_ K' hK
    unfold metB
    rw [Array.all_eq_true']
    intro e he
    cases hb : Region.binds .any e
    · rfl
    · rw [hall e he hb]; rfl
  · exact hs i (by omega) h2 L a w hI hr
/-- How many have not come up. -/
def left (n : Nat) (L : Array Bool) : Nat := ((List.range n).filter fun i => !L.getD i true).length
theorem left_next {n i : Nat} {L : Array Bool} (hi : i < n) (h : L.getD i true = false) : left n (L.setIfInBounds i true) < left n L := by
  unfold left
  have hsub : ∀ (l : List Nat), (l.filter fun j => !(L.setIfInBounds i true).getD j true).length ≤ (l.filter fun j => !L.getD j true).length ∧ (i ∈ l → (l.filter fun j => !(L.setIfInBounds i true).getD j true).length < (l.filter fun j => !L.getD j true).length) := by
    intro l
    induction l with
    | nil => exact ⟨by simp, fun h => by cases h⟩
    | cons j l ih =>
      have hj : (L.setIfInBounds i true).getD j true = if j = i then true else L.getD j true := by
        by_cases e : j = i
        · subst e
          rw [if_pos rfl]
          simp only [Array.getD_eq_getD_getElem?, Array.getElem?_setIfInBounds]
          by_cases hs : j < L.size
          · simp [hs]
          · simp [hs]
        · rw [if_neg e]
          simp only [Array.getD_eq_getD_getElem?, Array.getElem?_setIfInBounds]
          rw [if_neg (fun h => e h.symm)]
      have h1 := ih.1
      by_cases e : j = i
      · subst e
        rw [if_pos rfl] at hj
        rw [List.filter_cons_of_neg (by rw [hj]; decide), List.filter_cons_of_pos (by rw [h]; rfl), List.length_cons]
        exact ⟨by omega, fun _ => by omega⟩
      · rw [if_neg e] at hj
        have h2 := ih.2
        cases hL : L.getD j true
        · rw [List.filter_cons_of_pos (by rw [hj, hL]; rfl), List.filter_cons_of_pos (by rw [hL]; rfl), List.length_cons, List.length_cons]
          exact ⟨by omega, fun hm => by have := h2 (by rcases List.mem_cons.1 hm with h | h; exact absurd h.symm e; exact h); omega⟩
        · rw [List.filter_cons_of_neg (by rw [hj, hL]; decide), List.filter_cons_of_neg (by rw [hL]; decide)]
          exact ⟨h1, fun hm => h2 (by rcases List.mem_cons.1 hm with h | h; exact absurd h.symm e; exact h)⟩
  exact (hsub _).2 (List.mem_range.2 hi)
theorem wpAny_inv {P : Program} {ops : Array Oper} {Q : Exit → Act → World → Prop} {I : Array Bool → Act → World → Prop} (hs : StepsI P ops Q I 0)
    (he : ∀ L a w, I L a w → Region.ready .any ops L = [] → Q .normal a w) : ∀ (fuel : Nat) L a w, left ops.size L ≤ fuel → I L a w → wpAny P .any ops Q fuel L a w
  | 0, L, a, w, hf, hI => by
    have hr : Region.ready .any ops L = [] := List.eq_nil_iff_forall_not_mem.2 fun i hi => by
      obtain ⟨hL, o, ho, _⟩ := mem_ready.1 hi
      have := left_next (Array.getElem?_eq_some_iff.1 ho).1 hL
      omega
    exact ⟨hr, he L a w hI hr⟩
  | fuel + 1, L, a, w, hf, hI => by
    refine ⟨fun h => he L a w hI h, fun i hi => ?_⟩
    obtain ⟨hL, o, ho, _⟩ := mem_ready.1 hi
    have hi' := (Array.getElem?_eq_some_iff.1 ho).1
    have hlt := left_next hi' hL
    exact wpOp_mono (fun a' w' h => wpAny_inv hs he fuel _ a' w' (by omega) h) (hs i (Nat.zero_le _) hi' L a w hI hi)
/-- THE RULE. -/
theorem wp_region_inv {P : Program} {ops : Array Oper} {Q : Exit → Act → World → Prop} {id : Nat} {a : Act} {w : World} (I : Array Bool → Act → World → Prop) (hm : P.follows .mixedOrders = true)
    (h0 : I (Array.replicate ops.size false) a w.drew) (hs : StepsI P ops Q I 0) (he : ∀ L a w, I L a w → Region.ready .any ops L = [] → Q .normal a w) : (Code.region id ops true).wp P Q a w :=
  wp_region_any hm (wpAny_inv hs he _ _ _ _ (by
    unfold left
    refine Nat.le_trans (List.length_filter_le _ _) ?_
    simp) h0)

/-- No operation waits for a later one. -/
def forthB (ops : Array Oper) : Bool := (List.range ops.size).all fun i => match ops[i]? with | some o => o.after.all fun e => !Region.binds .any e || decide (e.on < i) | none => true
/-- Where none may come up all have. -/
theorem all_up {ops : Array Oper} {L : Array Bool} (hf : forthB ops = true) {N : Nat} (hN : ops.size = N) (hr : Region.ready .any ops L = []) : ∀ i, i < N → L.getD i false = true ∨ L.size ≤ i := by
  subst hN
  intro i
  induction i using Nat.strongRecOn with
  | ind i ih =>
    intro hi
    by_cases hs : L.size ≤ i
    · exact .inr hs
    · refine .inl ?_
      cases hL : L.getD i false with
      | true => rfl
      | false =>
        exfalso
        have hL' : L.getD i true = false := by
          simp only [Array.getD_eq_getD_getElem?] at hL ⊢
          rw [Array.getElem?_eq_getElem (by omega)] at hL ⊢
          exact hL
        have hf' := List.all_eq_true.1 hf i (List.mem_range.2 hi)
        rw [Array.getElem?_eq_getElem hi] at hf'
        have : i ∈ Region.ready .any ops L := mem_ready.2 ⟨hL', ops[i], Array.getElem?_eq_getElem hi, fun e he hbd => by
          have h0 := Array.all_eq_true'.1 hf' e he
          rw [hbd] at h0
          have h1 := of_decide_eq_true (by simpa using h0 : decide (e.on < i) = true)
          rcases ih e.on h1 (by omega) with h | h
          · exact h
          · omega⟩
        rw [hr] at this
        cases this
/-- Temporaries that have been put anew. -/
def puts (a : Act) : List (Nat × Value) → Act
  | [] => a
  | (t, v) :: l => puts (a.put (some t) v) l
/-- THE RULE, the state at the region's beginning handed to the invariant. -/
theorem wp_region_inv2 {P : Program} {ops : Array Oper} {Q : Exit → Act → World → Prop} {id : Nat} {a : Act} {w : World} (I : Act → Array Bool → Act → World → Prop) (hm : P.follows .mixedOrders = true)
    (h0 : I a (Array.replicate ops.size false) a w.drew) (hs : StepsI P ops Q (I a) 0) (he : ∀ L a' v, I a L a' v → Region.ready .any ops L = [] → Q .normal a' v) : (Code.region id ops true).wp P Q a w :=
  wp_region_inv (I a) hm h0 hs he

/-- A call whose answer (Facts) goes into a box that is made in whatever place. -/
structure Cal (w0 : World) (f al st : Bool) (X : Nat) (sa : Option Addr) (sc : Nat) (rz : Int) (rl : List Int) (v : World) : Prop where
  bel : Below w0.heap.size w0 v
  sf : st = true → f = true ∧ al = true
  own : f = true → OwnI v w0.heap.size (.slice sa rl.length sc) rl
  box : al = true → w0.heap.size ≤ X ∧ (st = false → Fz v X) ∧ (st = true → Fc v X rz sa rl.length sc)
  ne : f = true → al = true → ∀ q, Value.ownBlock (.slice sa rl.length sc) = some q → X ≠ q
theorem Cal.below {w0 v v' : World} {f al st : Bool} {X : Nat} {sa : Option Addr} {sc : Nat} {rz : Int} {rl : List Int} (h : Cal w0 f al st X sa sc rz rl v) (hb : Below v.heap.size v v') : Cal w0 f al st X sa sc rz rl v' :=
  ⟨below_step h.bel hb, h.sf, fun e => (h.own e).below hb, fun e => ⟨(h.box e).1, fun e2 => ((h.box e).2.1 e2).below hb, fun e2 => ((h.box e).2.2 e2).below hb⟩, h.ne⟩
theorem Cal.alloc {w0 v : World} {f st : Bool} {X : Nat} {sa : Option Addr} {sc : Nat} {rz : Int} {rl : List Int} (h : Cal w0 f false st X sa sc rz rl v) : Cal w0 f true st v.heap.size sa sc rz rl (v.alloc (.cells #[.int .i64 0, .slice none 0 0] 26)) := by
  have e : st = false := by cases hs : st; rfl; exact absurd (h.sf hs).2 (by decide)
  subst e
  have hb := (Below.refl v.heap.size v).alloc (Nat.le_refl _) (.cells #[.int .i64 0, .slice none 0 0] 26)
  exact ⟨below_step h.bel hb, fun e => (by cases e), fun e => (h.own e).below hb, fun _ => ⟨h.bel.size, fun _ => Fz.new v, fun e => (by cases e)⟩, fun e _ q hq => by have := ((h.own e).lt hq).2; omega⟩
theorem Cal.store {w0 v : World} {X : Nat} {sa : Option Addr} {sc : Nat} {rz : Int} {rl : List Int} (h : Cal w0 true true false X sa sc rz rl v) : Cal w0 true true true X sa sc rz rl ((v.setCell ⟨X, 0, none⟩ (.int .i64 rz)).setCell ⟨X, 1, none⟩ (.slice sa rl.length sc)) := by
  have hz := (h.box rfl).2.1 rfl
  have hx := (h.box rfl).1
  have hg1 := grown_setCell v ⟨X, 0, none⟩ (.int .i64 rz)
  have hg2 := grown_setCell (v.setCell ⟨X, 0, none⟩ (.int .i64 rz)) ⟨X, 1, none⟩ (.slice sa rl.length sc)
  refine ⟨(h.bel.setCell (p := ⟨X, 0, none⟩) hx _).setCell (p := ⟨X, 1, none⟩) hx _, fun _ => ⟨rfl, rfl⟩, fun _ => ((h.own rfl).grown hg1 (fun q hq => some_ne (h.ne rfl rfl q hq))).grown hg2 (fun q hq => some_ne (h.ne rfl rfl q hq)), fun _ => ⟨hx, fun e => (by cases e), fun _ => ?_⟩, h.ne⟩
  obtain ⟨⟨z0, z1⟩, z2, z3⟩ := hz
  constructor <;> simp [go_sem, z0, z1]
theorem Cal.all {w0 v : World} {X : Nat} {sa : Option Addr} {sc : Nat} {rz : Int} {rl : List Int} (h : Cal w0 true true true X sa sc rz rl v) : Below w0.heap.size w0 v ∧ w0.heap.size ≤ X ∧ Fc v X rz sa rl.length sc ∧ OwnI v w0.heap.size (.slice sa rl.length sc) rl ∧ ∀ q, Value.ownBlock (.slice sa rl.length sc) = some q → X ≠ q :=
  ⟨h.bel, (h.box rfl).1, (h.box rfl).2.2 rfl, h.own rfl, h.ne rfl rfl⟩
/-- Two tables made and stored in whatever order. -/
structure Two (w0 : World) (p q sp sq : Bool) (X Y : Nat) (n : Int) (G : List Int) (m : Int) (H : List Int) (w : World) : Prop where
  bel : Below w0.heap.size w0 w
  sa : sp = true → p = true
  sb : sq = true → q = true
  a : p = true → w0.heap.size ≤ X ∧ Dif w X (if sp then n else 0) (if sp then G else zs)
  b : q = true → w0.heap.size ≤ Y ∧ Dif w Y (if sq then m else 0) (if sq then H else zs)
  ne : p = true → q = true → X ≠ Y
theorem Two.below {w0 w w' : World} {p q sp sq : Bool} {X Y : Nat} {n : Int} {G : List Int} {m : Int} {H : List Int} (h : Two w0 p q sp sq X Y n G m H w) (hb : Below w.heap.size w w') : Two w0 p q sp sq X Y n G m H w' :=
  ⟨below_step h.bel hb, h.sa, h.sb, fun e => ⟨(h.a e).1, (h.a e).2.below hb⟩, fun e => ⟨(h.b e).1, (h.b e).2.below hb⟩, h.ne⟩
theorem Two.all {w0 w : World} {X Y : Nat} {n : Int} {G : List Int} {m : Int} {H : List Int} (h : Two w0 true true true true X Y n G m H w) : Below w0.heap.size w0 w ∧ w0.heap.size ≤ X ∧ w0.heap.size ≤ Y ∧ X ≠ Y ∧ Dif w X n G ∧ Dif w Y m H :=
  ⟨h.bel, (h.a rfl).1, (h.b rfl).1, h.ne rfl rfl, by simpa using (h.a rfl).2, by simpa using (h.b rfl).2⟩
end Go.Proofs.Ytgclngofigffdaa
