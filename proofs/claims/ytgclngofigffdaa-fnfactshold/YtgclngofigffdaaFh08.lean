/-
  A REGION THAT DRAWS ITS ORDER, BY AN INVARIANT: one obligation for each operation, whatever has come up before it.
  CONTRACT of the program's FactsBound.
  CONTRACTS of toSym, of comparing (cmp.Compare, cmp.Or), and of both SymOks, both SymLesses.
  STEPS of a widening: plain models; CONTRACTS of areVals, areSteps, stepBelow, stepAbove of the program.
  CONTRACTS of areSteps of the program, l06Steps of the specification.
-/
import Derived.Test.YtgclngofigffdaaFh06
import Derived.Deep.RegionHeld3
import Derived.Test.YtgclngofigffdaaFh07
import Derived.Test.YtgclngofigffdaaFh00
import Derived.Deep.AppendLies
import Derived.Deep.Onto
import Derived.Deep.QuietTactic
import Derived.BigQuiet
namespace Go.Proofs.Ytgclngofigffdaa
open Go.RowKit

theorem ft {p : Prop} (e : false = true) : p := by cases e
theorem tf {p : Prop} (e : true = false) : p := by cases e
/-- What an operation waits for has come up. -/
def metB (o : Oper) (L : Array Bool) : Bool := o.after.all fun e => !Region.binds .any e || L.getD e.on false
/-- Each of the operations from number k on may come up wherever the invariant holds, and leaves it. -/
def StepsI (P : Program) (ops : Array Oper) (Q : Exit → Act → World → Prop) (I : Array Bool → Act → World → Prop) (k : Nat) : Prop :=
  ∀ i, k ≤ i → i < ops.size → ∀ L a w, I L a w → i ∈ Region.ready .any ops L → wpOp P ops Q i (fun a' w' => I (L.setIfInBounds i true) a' w') a w
theorem StepsI.nil {P : Program} {ops : Array Oper} {Q : Exit → Act → World → Prop} {I : Array Bool → Act → World → Prop} {k : Nat} (h : ops.size = k) : StepsI P ops Q I k := fun i h1 h2 => by omega
theorem StepsI.cons {P : Program} {ops : Array Oper} {Q : Exit → Act → World → Prop} {I : Array Bool → Act → World → Prop} {k : Nat} {o : Oper} (ho : ops[k]? = some o)
    (h : ∀ L a w, I L a w → L.getD k true = false → metB o L = true → ∀ K' : Act → World → Prop, Shut (∀ a w, I (L.setIfInBounds k true) a w → K' a w) → if Region.wanted o (yielded ops a.tmps) = true then Oper.wp P o a w K' Q else K' (a.put o.dst undef) w)
    (hs : StepsI P ops Q I (k + 1)) : StepsI P ops Q I k := fun i h1 h2 L a w hI hr => by
  by_cases e : i = k
  · subst e
    obtain ⟨hL, o', ho', hall⟩ := mem_ready.1 hr
    obtain rfl : o = o' := Option.some.inj (ho.symm.trans ho')
    refine wpOp_step ho fun K' hK => h L a w hI hL ?_ K' hK
    unfold metB
    rw [Array.all_eq_true']
    intro e he
    cases hb : Region.binds .any e
    · rfl
    · rw [hall e he hb]; rfl
  · exact hs i (by omega) h2 L a w hI hr
/-- How many have not come up. -/
def left (n : Nat) (L : Array Bool) : Nat := ((List.range n).filter fun i => !L.getD i true).length
theorem left_next {n i : Nat} {L : Array Bool} (hi : i < n) (h : L.getD i true = false) : left n (L.setIfInBounds i true) < left n L := by
  unfold left
  have hsub : ∀ (l : List Nat), (l.filter fun j => !(L.setIfInBounds i true).getD j true).length ≤ (l.filter fun j => !L.getD j true).length ∧ (i ∈ l → (l.filter fun j => !(L.setIfInBounds i true).getD j true).length < (l.filter fun j => !L.getD j true).length) := by
    intro l
    induction l with
    | nil => exact ⟨by simp, fun h => by cases h⟩
    | cons j l ih =>
      have hj : (L.setIfInBounds i true).getD j true = if j = i then true else L.getD j true := by
        by_cases e : j = i
        · subst e
          rw [if_pos rfl]
          simp only [Array.getD_eq_getD_getElem?, Array.getElem?_setIfInBounds]
          by_cases hs : j < L.size
          · simp [hs]
          · simp [hs]
        · rw [if_neg e]
          simp only [Array.getD_eq_getD_getElem?, Array.getElem?_setIfInBounds]
          rw [if_neg (fun h => e h.symm)]
      have h1 := ih.1
      by_cases e : j = i
      · subst e
        rw [if_pos rfl] at hj
        rw [List.filter_cons_of_neg (by rw [hj]; decide), List.filter_cons_of_pos (by rw [h]; rfl), List.length_cons]
        exact ⟨by omega, fun _ => by omega⟩
      · rw [if_neg e] at hj
        have h2 := ih.2
        cases hL : L.getD j true
        · rw [List.filter_cons_of_pos (by rw [hj, hL]; rfl), List.filter_cons_of_pos (by rw [hL]; rfl), List.length_cons, List.length_cons]
          exact ⟨by omega, fun hm => by have := h2 (by rcases List.mem_cons.1 hm with h | h; exact absurd h.symm e; exact h); omega⟩
        · rw [List.filter_cons_of_neg (by rw [hj, hL]; decide), List.filter_cons_of_neg (by rw [hL]; decide)]
          exact ⟨h1, fun hm => h2 (by rcases List.mem_cons.1 hm with h | h; exact absurd h.symm e; exact h)⟩
  exact (hsub _).2 (List.mem_range.2 hi)
theorem wpAny_inv {P : Program} {ops : Array Oper} {Q : Exit → Act → World → Prop} {I : Array Bool → Act → World → Prop} (hs : StepsI P ops Q I 0)
    (he : ∀ L a w, I L a w → Region.ready .any ops L = [] → Q .normal a w) : ∀ (fuel : Nat) L a w, left ops.size L ≤ fuel → I L a w → wpAny P .any ops Q fuel L a w
  | 0, L, a, w, hf, hI => by
    have hr : Region.ready .any ops L = [] := List.eq_nil_iff_forall_not_mem.2 fun i hi => by
      obtain ⟨hL, o, ho, _⟩ := mem_ready.1 hi
      have := left_next (Array.getElem?_eq_some_iff.1 ho).1 hL
      omega
    exact ⟨hr, he L a w hI hr⟩
  | fuel + 1, L, a, w, hf, hI => by
    refine ⟨fun h => he L a w hI h, fun i hi => ?_⟩
    obtain ⟨hL, o, ho, _⟩ := mem_ready.1 hi
    have hi' := (Array.getElem?_eq_some_iff.1 ho).1
    have hlt := left_next hi' hL
    exact wpOp_mono (fun a' w' h => wpAny_inv hs he fuel _ a' w' (by omega) h) (hs i (Nat.zero_le _) hi' L a w hI hi)
/-- THE RULE. -/
theorem wp_region_inv {P : Program} {ops : Array Oper} {Q : Exit → Act → World → Prop} {id : Nat} {a : Act} {w : World} (I : Array Bool → Act → World → Prop) (hm : P.follows .mixedOrders = true)
    (h0 : I (Array.replicate ops.size false) a w.drew) (hs : StepsI P ops Q I 0) (he : ∀ L a w, I L a w → Region.ready .any ops L = [] → Q .normal a w) : (Code.region id ops true).wp P Q a w :=
  wp_region_any hm (wpAny_inv hs he _ _ _ _ (by
    unfold left
    refine Nat.le_trans (List.length_filter_le _ _) ?_
    simp) h0)

/-- No operation waits for a later one. -/
def forthB (ops : Array Oper) : Bool := (List.range ops.size).all fun i => match ops[i]? with | some o => o.after.all fun e => !Region.binds .any e || decide (e.on < i) | none => true
/-- Where none may come up all have. -/
theorem all_up {ops : Array Oper} {L : Array Bool} (hf : forthB ops = true) {N : Nat} (hN : ops.size = N) (hr : Region.ready .any ops L = []) : ∀ i, i < N → L.getD i false = true ∨ L.size ≤ i := by
  subst hN
  intro i
  induction i using Nat.strongRecOn with
  | ind i ih =>
    intro hi
    by_cases hs : L.size ≤ i
    · exact .inr hs
    · refine .inl ?_
      cases hL : L.getD i false with
      | true => rfl
      | false =>
        exfalso
        have hL' : L.getD i true = false := by
          simp only [Array.getD_eq_getD_getElem?] at hL ⊢
          rw [Array.getElem?_eq_getElem (by omega)] at hL ⊢
          exact hL
        have hf' := List.all_eq_true.1 hf i (List.mem_range.2 hi)
        rw [Array.getElem?_eq_getElem hi] at hf'
        have : i ∈ Region.ready .any ops L := mem_ready.2 ⟨hL', ops[i], Array.getElem?_eq_getElem hi, fun e he hbd => by
          have h0 := Array.all_eq_true'.1 hf' e he
          rw [hbd] at h0
          have h1 := of_decide_eq_true (by simpa using h0 : decide (e.on < i) = true)
          rcases ih e.on h1 (by omega) with h | h
          · exact h
          · omega⟩
        rw [hr] at this
        cases this
/-- Temporaries that have been put anew. -/
def puts (a : Act) : List (Nat × Value) → Act
  | [] => a
  | (t, v) :: l => puts (a.put (some t) v) l
/-- THE RULE, the state at the region's beginning handed to the invariant. -/
theorem wp_region_inv2 {P : Program} {ops : Array Oper} {Q : Exit → Act → World → Prop} {id : Nat} {a : Act} {w : World} (I : Act → Array Bool → Act → World → Prop) (hm : P.follows .mixedOrders = true)
    (h0 : I a (Array.replicate ops.size false) a w.drew) (hs : StepsI P ops Q (I a) 0) (he : ∀ L a' v, I a L a' v → Region.ready .any ops L = [] → Q .normal a' v) : (Code.region id ops true).wp P Q a w :=
  wp_region_inv (I a) hm h0 hs he

/-- A call whose answer (Facts) goes into a box that is made in whatever place. -/
structure Cal (w0 : World) (f al st : Bool) (X : Nat) (sa : Option Addr) (sc : Nat) (rz : Int) (rl : List Int) (v : World) : Prop where
  bel : Below w0.heap.size w0 v
  sf : st = true → f = true ∧ al = true
  own : f = true → OwnI v w0.heap.size (.slice sa rl.length sc) rl
  box : al = true → w0.heap.size ≤ X ∧ (st = false → Fz v X) ∧ (st = true → Fc v X rz sa rl.length sc)
  ne : f = true → al = true → ∀ q, Value.ownBlock (.slice sa rl.length sc) = some q → X ≠ q
theorem Cal.start {w0 v : World} {X : Nat} {sa : Option Addr} {sc : Nat} {rz : Int} {rl : List Int} (h : Below w0.heap.size w0 v) : Cal w0 false false false X sa sc rz rl v :=
  ⟨h, fun e => (by cases e), fun e => (by cases e), fun e => (by cases e), fun e => (by cases e)⟩
theorem Cal.below {w0 v v' : World} {f al st : Bool} {X : Nat} {sa : Option Addr} {sc : Nat} {rz : Int} {rl : List Int} (h : Cal w0 f al st X sa sc rz rl v) (hb : Below v.heap.size v v') : Cal w0 f al st X sa sc rz rl v' :=
  ⟨below_step h.bel hb, h.sf, fun e => (h.own e).below hb, fun e => ⟨(h.box e).1, fun e2 => ((h.box e).2.1 e2).below hb, fun e2 => ((h.box e).2.2 e2).below hb⟩, h.ne⟩
theorem Cal.alloc {w0 v : World} {f st : Bool} {X : Nat} {sa : Option Addr} {sc : Nat} {rz : Int} {rl : List Int} (h : Cal w0 f false st X sa sc rz rl v) : Cal w0 f true st v.heap.size sa sc rz rl (v.alloc (.cells #[.int .i64 0, .slice none 0 0] 26)) := by
  have e : st = false := by cases hs : st; rfl; exact absurd (h.sf hs).2 (by decide)
  subst e
  have hb := (Below.refl v.heap.size v).alloc (Nat.le_refl _) (.cells #[.int .i64 0, .slice none 0 0] 26)
  exact ⟨below_step h.bel hb, fun e => (by cases e), fun e => (h.own e).below hb, fun _ => ⟨h.bel.size, fun _ => Fz.new v, fun e => (by cases e)⟩, fun e _ q hq => by have := ((h.own e).lt hq).2; omega⟩
theorem Cal.store {w0 v : World} {X : Nat} {sa : Option Addr} {sc : Nat} {rz : Int} {rl : List Int} (h : Cal w0 true true false X sa sc rz rl v) : Cal w0 true true true X sa sc rz rl ((v.setCell ⟨X, 0, none⟩ (.int .i64 rz)).setCell ⟨X, 1, none⟩ (.slice sa rl.length sc)) := by
  have hz := (h.box rfl).2.1 rfl
  have hx := (h.box rfl).1
  have hg1 := grown_setCell v ⟨X, 0, none⟩ (.int .i64 rz)
  have hg2 := grown_setCell (v.setCell ⟨X, 0, none⟩ (.int .i64 rz)) ⟨X, 1, none⟩ (.slice sa rl.length sc)
  refine ⟨(h.bel.setCell (p := ⟨X, 0, none⟩) hx _).setCell (p := ⟨X, 1, none⟩) hx _, fun _ => ⟨rfl, rfl⟩, fun _ => ((h.own rfl).grown hg1 (fun q hq => some_ne (h.ne rfl rfl q hq))).grown hg2 (fun q hq => some_ne (h.ne rfl rfl q hq)), fun _ => ⟨hx, fun e => (by cases e), fun _ => ?_⟩, h.ne⟩
  obtain ⟨⟨z0, z1⟩, z2, z3⟩ := hz
  constructor <;> simp [go_sem, z0, z1]
theorem Cal.all {w0 v : World} {X : Nat} {sa : Option Addr} {sc : Nat} {rz : Int} {rl : List Int} (h : Cal w0 true true true X sa sc rz rl v) : Below w0.heap.size w0 v ∧ w0.heap.size ≤ X ∧ Fc v X rz sa rl.length sc ∧ OwnI v w0.heap.size (.slice sa rl.length sc) rl ∧ ∀ q, Value.ownBlock (.slice sa rl.length sc) = some q → X ≠ q :=
  ⟨h.bel, (h.box rfl).1, (h.box rfl).2.2 rfl, h.own rfl, h.ne rfl rfl⟩
/-- Two tables made and stored in whatever order. -/
structure Two (w0 : World) (p q sp sq : Bool) (X Y : Nat) (n : Int) (G : List Int) (m : Int) (H : List Int) (w : World) : Prop where
  bel : Below w0.heap.size w0 w
  sa : sp = true → p = true
  sb : sq = true → q = true
  a : p = true → w0.heap.size ≤ X ∧ Dif w X (if sp then n else 0) (if sp then G else zs)
  b : q = true → w0.heap.size ≤ Y ∧ Dif w Y (if sq then m else 0) (if sq then H else zs)
  ne : p = true → q = true → X ≠ Y
theorem Two.start {w0 w : World} {X Y : Nat} {n : Int} {G : List Int} {m : Int} {H : List Int} (h : Below w0.heap.size w0 w) : Two w0 false false false false X Y n G m H w :=
  ⟨h, fun e => e, fun e => e, fun e => (by cases e), fun e => (by cases e), fun e => (by cases e)⟩
theorem Two.below {w0 w w' : World} {p q sp sq : Bool} {X Y : Nat} {n : Int} {G : List Int} {m : Int} {H : List Int} (h : Two w0 p q sp sq X Y n G m H w) (hb : Below w.heap.size w w') : Two w0 p q sp sq X Y n G m H w' :=
  ⟨below_step h.bel hb, h.sa, h.sb, fun e => ⟨(h.a e).1, (h.a e).2.below hb⟩, fun e => ⟨(h.b e).1, (h.b e).2.below hb⟩, h.ne⟩
theorem Two.allocA {w0 w : World} {q sp sq : Bool} {X Y : Nat} {n : Int} {G : List Int} {m : Int} {H : List Int} (h : Two w0 false q sp sq X Y n G m H w) : Two w0 true q sp sq w.heap.size Y n G m H (w.alloc (.cells (dA 0 zs) 59)) := by
  have e : sp = false := by cases hs : sp; rfl; exact absurd (h.sa hs) (by decide)
  subst e
  have hb := (Below.refl w.heap.size w).alloc (Nat.le_refl _) (.cells (dA 0 zs) 59)
  exact ⟨below_step h.bel hb, fun e => (by cases e), h.sb, fun _ => ⟨h.bel.size, Dif.new w zs_len 59⟩, fun e => ⟨(h.b e).1, (h.b e).2.below hb⟩, fun _ e => by have := (h.b e).2.lt; omega⟩
theorem Two.allocB {w0 w : World} {p sp sq : Bool} {X Y : Nat} {n : Int} {G : List Int} {m : Int} {H : List Int} (h : Two w0 p false sp sq X Y n G m H w) : Two w0 p true sp sq X w.heap.size n G m H (w.alloc (.cells (dA 0 zs) 59)) := by
  have e : sq = false := by cases hs : sq; rfl; exact absurd (h.sb hs) (by decide)
  subst e
  have hb := (Below.refl w.heap.size w).alloc (Nat.le_refl _) (.cells (dA 0 zs) 59)
  exact ⟨below_step h.bel hb, h.sa, fun e => (by cases e), fun e => ⟨(h.a e).1, (h.a e).2.below hb⟩, fun _ => ⟨h.bel.size, Dif.new w zs_len 59⟩, fun e _ => by have := (h.a e).2.lt; omega⟩
theorem Two.storeA {w0 w : World} {q sp sq : Bool} {X Y : Nat} {n : Int} {G : List Int} {m : Int} {H : List Int} (hG : G.length = 169) (h : Two w0 true q sp sq X Y n G m H w) : Two w0 true q true sq X Y n G m H (w.setCells X 0 (dL n G)) :=
  ⟨Below.setCells h.bel (h.a rfl).1 _ _, fun _ => rfl, h.sb, fun _ => ⟨(h.a rfl).1, by simpa using (h.a rfl).2.stored (n' := n) hG⟩, fun e => ⟨(h.b e).1, (h.b e).2.grown (grown_setCells X _ _ _) (some_ne (fun e2 => h.ne rfl e e2.symm))⟩, h.ne⟩
theorem Two.storeB {w0 w : World} {p sp sq : Bool} {X Y : Nat} {n : Int} {G : List Int} {m : Int} {H : List Int} (hH : H.length = 169) (h : Two w0 p true sp sq X Y n G m H w) : Two w0 p true sp true X Y n G m H (w.setCells Y 0 (dL m H)) :=
  ⟨Below.setCells h.bel (h.b rfl).1 _ _, h.sa, fun _ => rfl, fun e => ⟨(h.a e).1, (h.a e).2.grown (grown_setCells Y _ _ _) (some_ne (fun e2 => h.ne e rfl e2))⟩, fun _ => ⟨(h.b rfl).1, by simpa using (h.b rfl).2.stored (n' := m) hH⟩, h.ne⟩
theorem Two.all {w0 w : World} {X Y : Nat} {n : Int} {G : List Int} {m : Int} {H : List Int} (h : Two w0 true true true true X Y n G m H w) : Below w0.heap.size w0 w ∧ w0.heap.size ≤ X ∧ w0.heap.size ≤ Y ∧ X ≠ Y ∧ Dif w X n G ∧ Dif w Y m H :=
  ⟨h.bel, (h.a rfl).1, (h.b rfl).1, h.ne rfl rfl, by simpa using (h.a rfl).2, by simpa using (h.b rfl).2⟩
end Go.Proofs.Ytgclngofigffdaa
namespace Go.Proofs.Ytgclngofigffdaa
open Go.RowKit

theorem Box.grown {w w' : World} {b : Nat} {x y : Int} {row : Option Nat} (h : Box w b x y) (hg : w.grownBy w' row) (hr : some b ≠ row) : Box w' b x y :=
  ⟨(hg.cell_far ⟨b, 0, none⟩ h.lt hr).trans h.1, (hg.cell_far ⟨b, 1, none⟩ h.lt hr).trans h.2.1, (hg.frozen_far ⟨b, 0, none⟩ h.lt hr).trans h.2.2.1, (hg.frozen_far ⟨b, 1, none⟩ h.lt hr).trans h.2.2.2⟩
end Go.Proofs.Ytgclngofigffdaa
namespace Go.Proofs.Ytgclngofigffdaa
open Go.RowKit

end Go.Proofs.Ytgclngofigffdaa
namespace Go.Proofs.Ytgclngofigffdaa
open Go.RowKit

/-- Ints that lie in a row, to be read. -/
def IntsIn (w : World) (l : List Int) (b off : Nat) : Prop := ∀ (i : Nat) (x : Int), l[i]? = some x → w.cell? ⟨b, off + i, none⟩ = some (.int .i64 x)
theorem IntsIn.below {w w' : World} {l : List Int} {b off : Nat} (h : IntsIn w l b off) (hb : Below w.heap.size w w') : IntsIn w' l b off := fun i x hi => by
  have h0 := h i x hi
  exact (hb.cell (p := ⟨b, off + i, none⟩) (World.block_lt_of_cell? w _ h0)).trans h0
def upB : List Int → Bool
  | x :: y :: l => decide (x < y) && upB (y :: l)
  | _ => true
def valsB (l : List Int) : Bool := l.all valB
/-- What may be steps. -/
def stepsB (l : List Int) : Bool := decide (l.length ≤ 20) && (valsB l && upB l)
theorem vals_take {l : List Int} {k : Nat} {x : Int} (h : l[k]? = some x) (ht : (l.take k).all valB = true) (hx : valB x = true) : (l.take (k + 1)).all valB = true := by
  rw [List.take_add_one, h, List.all_append, ht]; simp [hx]
theorem vals_no {l : List Int} {k : Nat} {x : Int} (h : l[k]? = some x) (hx : valB x = false) : valsB l = false := by
  unfold valsB
  cases hh : l.all valB
  · rfl
  · rw [List.all_eq_true] at hh
    rw [hh x (List.mem_of_getElem? h)] at hx
    cases hx
set_option maxHeartbeats 800000 in
theorem areVals_of (l : List Int) (b off c : Nat) (w : World) (hn : l.length ≤ maxLen) (hl : IntsIn w l b off) : Calls Try.prog 60 #[.slice (some ⟨b, off, none⟩) l.length c] w fun e w' => e = .returned (.bool (valsB l)) ∧ w = w' := by
  unfold maxLen at hn
  have HL := mkHid hl
  clear hl
  go_enter Try.func60, Try.ntmps60
  go_wp2
  go_loopw [7] (fun i w' => ∃ (k : Nat), k ≤ l.length ∧ i = .int .i64 k ∧ (l.take k).all valB = true ∧ w' = w) (fun i _ => l.length - (intOf i).toNat)
  case atStart => exact ⟨0, Nat.zero_le _, rfl, by simp, rfl⟩
  case round =>
    obtain ⟨k, hk, rfl, hall, rfl⟩ := hrel
    have HA := mkHid hall
    clear hall
    by_cases hlt : k < l.length
    · obtain ⟨x, hx⟩ : ∃ x, l[k]? = some x := ⟨_, List.getElem?_eq_getElem hlt⟩
      have c0 := HL.out k x hx
      have i0 : (0 : Int) ≤ (k : Int) := by omega
      have i1 : (k : Int) < (l.length : Int) := by omega
      cases h1 : valB x
      · have e := mkHid (vals_no hx h1)
        clear hx
        go_wp2_with (go_at_call 77; refine (iVal_any _ _).mono ?_; rintro e w' ⟨rfl, rfl⟩)
        go_ret
        exact ⟨ret_bool e.out.symm, rfl⟩
      · have e := mkHid (vals_take hx HA.out h1)
        clear hx
        go_wp2_with (go_at_call 77; refine (iVal_any _ _).mono ?_; rintro e w' ⟨rfl, rfl⟩)
        go_roundw
        case rel => exact ⟨k + 1, by omega, by go_num, e.out, by trivial⟩
        case measure => simp [intOf]; omega
    · have e : Hid (valsB l = true) := mkHid (by have := HA.out; rw [List.take_of_length_le (by omega)] at this; exact this)
      go_wp2
      go_ret
      exact ⟨ret_bool e.out.symm, rfl⟩
end Go.Proofs.Ytgclngofigffdaa
namespace Go.Proofs.Ytgclngofigffdaa
open Go.RowKit

def Up (l : List Int) (k : Nat) : Prop := ∀ (i : Nat) (x y : Int), i + 1 < k → l[i]? = some x → l[i + 1]? = some y → x < y
theorem upB_iff : ∀ (l : List Int), upB l = true ↔ Up l l.length
  | [] => by simp [upB, Up]
  | [x] => by simp [upB, Up]
  | x :: y :: l => by
    have ih := upB_iff (y :: l)
    rw [upB, Bool.and_eq_true, decide_eq_true_eq, ih]
    constructor
    · rintro ⟨h0, h⟩ i u v hi hu hv
      cases i with
      | zero => simp at hu hv; omega
      | succ i => exact h i u v (by simp at hi ⊢; omega) (by simpa using hu) (by simpa using hv)
    · intro h
      exact ⟨h 0 x y (by simp) rfl rfl, fun i u v hi hu hv => h (i + 1) u v (by simp at hi ⊢; omega) (by simpa using hu) (by simpa using hv)⟩
theorem Up.next {l : List Int} {k : Nat} {x y : Int} (h : Up l k) (hx : l[k - 1]? = some x) (hy : l[k]? = some y) (hk : 1 ≤ k) (hlt : x < y) : Up l (k + 1) := by
  intro i u v hi hu hv
  by_cases h1 : i + 1 < k
  · exact h i u v h1 hu hv
  · have e : i = k - 1 := by omega
    have e2 : i + 1 = k := by omega
    rw [e, hx] at hu
    rw [e2, hy] at hv
    simp at hu hv
    omega
theorem Up.no {l : List Int} {k : Nat} {x y : Int} (hx : l[k - 1]? = some x) (hy : l[k]? = some y) (hk : 1 ≤ k) (hge : y ≤ x) : upB l = false := by
  cases h : upB l
  · rfl
  · have hkl : k < l.length := (List.getElem?_eq_some_iff.1 hy).1
    have := (upB_iff l).1 h (k - 1) x y (by omega) hx (by rw [show k - 1 + 1 = k by omega]; exact hy)
    omega

set_option maxHeartbeats 1600000 in
theorem areSteps_of (l : List Int) (b off c : Nat) (w : World) (hn : l.length ≤ maxLen) (hl : IntsIn w l b off) : Calls Try.prog 46 #[.slice (some ⟨b, off, none⟩) l.length c] w fun e w' => e = .returned (.bool (stepsB l)) ∧ Below w.heap.size w w' := by
  have HL := mkHid hl
  have HN := mkHid hn
  clear hl
  unfold maxLen at hn
  by_cases h20 : l.length ≤ 20
  · cases hv : valsB l
    · have e := mkHid (show stepsB l = false by simp [stepsB, hv])
      have hd : (20 < (l.length : Int)) = False := by simp; omega
      go_enter Try.func46, Try.ntmps46
      go_wp2_with (go_at_call 60; refine (areVals_of l _ _ _ _ HN.out HL.out).mono ?_; rintro e w' ⟨rfl, rfl⟩)
      go_ret
      exact ⟨ret_bool e.out.symm, Below.refl _ _⟩
    · have es := mkHid (show stepsB l = upB l by simp [stepsB, hv, h20])
      go_enter Try.func46, Try.ntmps46
      go_wp2_with (go_at_call 60; refine (areVals_of l _ _ _ _ HN.out HL.out).mono ?_; rintro e w' ⟨rfl, rfl⟩)
      go_loopw [3] (fun i w' => ∃ (k : Nat), 1 ≤ k ∧ i = .int .i64 k ∧ (k ≤ l.length ∨ k = 1) ∧ Up l k ∧ Below w.heap.size w w') (fun i _ => l.length - (intOf i).toNat)
      case atStart => exact ⟨1, Nat.le_refl _, rfl, .inr rfl, fun i x y h => by omega, Below.refl _ _⟩
      case round =>
        obtain ⟨k, hk, rfl, hkl, hup, hB⟩ := hrel
        have HU := mkHid hup
        have HB := mkHid hB
        clear hup hB
        by_cases hlt : k < l.length
        · obtain ⟨y, hy⟩ : ∃ x, l[k]? = some x := ⟨_, List.getElem?_eq_getElem hlt⟩
          obtain ⟨x, hx⟩ : ∃ x, l[k - 1]? = some x := ⟨_, List.getElem?_eq_getElem (by omega)⟩
          have c0 := (HL.out.below HB.out) k y hy
          have c1 := (HL.out.below HB.out) (k - 1) x hx
          have j0 : (0 : Int) ≤ (k : Int) := by omega
          have j1 : (k : Int) < (l.length : Int) := by omega
          have j2 : (0 : Int) ≤ (k : Int) - 1 := by omega
          have j3 : (k : Int) - 1 < (l.length : Int) := by omega
          have HX := mkHid hx
          have HY := mkHid hy
          clear hx hy
          by_cases h1 : x ≥ y
          · have e := mkHid (es.out.trans (Up.no HX.out HY.out hk h1))
            go_wp2
            go_quiet (fail)
            go_wp2
            go_ret
            exact ⟨ret_bool e.out.symm, HB.out.trans ⟨rfl, rfl, rfl, Nat.le_refl _, fun _ _ => rfl⟩⟩
          · have e := mkHid (Up.next HU.out HX.out HY.out hk (by omega))
            go_wp2
            go_quiet (fail)
            go_wp2
            go_roundw
            case rel => exact ⟨k + 1, by omega, by go_num, .inl (by omega), e.out, HB.out.trans ⟨rfl, rfl, rfl, Nat.le_refl _, fun _ _ => rfl⟩⟩
            case measure => simp [intOf]; omega
        · have e : Hid (stepsB l = true) := mkHid (es.out.trans ((upB_iff l).2 (fun i x y hi hx hy => HU.out i x y (by omega) hx hy)))
          go_wp2
          go_ret
          exact ⟨ret_bool e.out.symm, HB.out⟩
  · have e := mkHid (show stepsB l = false by simp [stepsB, h20])
    have hd : (20 < (l.length : Int)) := by omega
    go_enter Try.func46, Try.ntmps46
    go_wp2
    go_ret
    exact ⟨ret_bool e.out.symm, Below.refl _ _⟩
end Go.Proofs.Ytgclngofigffdaa
