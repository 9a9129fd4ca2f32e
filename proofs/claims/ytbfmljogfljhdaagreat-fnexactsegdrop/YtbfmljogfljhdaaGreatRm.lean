/-
  GUARDS: models (plain); CONTRACTS of l02IsCond, l06Without of the specification, guardLess, withoutOnly of the program.
  VALS: taken over, compared, ok, what they have; no cell.
  A REGION THAT DRAWS ITS ORDER, BY AN INVARIANT: one obligation for each operation, whatever has come up before it.
  PURE: terms in order, sets of terms, segments as data.
  CONTRACTS of toSym, of comparing (cmp.Compare, cmp.Or), and of both SymOks, both SymLesses.
  ROWS IN MEMORY of elements of some cells each: to be read (At), of one's own (Own).
-/
import Derived.Test.YtbfmljogfljhdaaGreatLeaf
import Derived.Deep.QuietTactic
import Derived.Deep.RegionHeld3
import Derived.Deep.LoopGhost
import Derived.Deep.AppendLies
import Derived.Deep.Onto
import Derived.BigQuiet
namespace Go.Proofs.YtbfmljogfljhdaaGreat
open Go.RowKit
attribute [local go_sem] nlt2 nlt3 nlt4 nle2 nle3 nle4 drew_size drew_cell drew_frozen

theorem bl_set2 {w a : World} {p : Addr} (hp : w.heap.size ≤ p.block) (h : Below w.heap.size w a) (u : Value) : Below w.heap.size w (a.setCell p u) := h.setCell hp u
end Go.Proofs.YtbfmljogfljhdaaGreat
namespace Go.Proofs.YtbfmljogfljhdaaGreat
open Go.RowKit

set_option maxHeartbeats 400000 in
theorem toVal_any (a b : Int) (s : Bool) (w : World) : Calls Tryz.prog 110 #[.agg #[.int .i64 a, .int .i64 b, .bool s]] w fun e w' => e = .returned (.agg #[.int .i64 a, .int .i64 b, .bool s]) ∧ Below w.heap.size w w' := by
  go_enter Tryz.func110, Tryz.ntmps110
  go_wp2_with (go_at_call 133; refine (toRange_any _ _ _).mono ?_; rintro e w' ⟨rfl, hb⟩; (try rw [below_drew] at hb); obtain ⟨hc, hf, hm, hs⟩ := bcell4 hb; have hz0 : w.heap.size < w'.heap.size := (by have := hb.size; (try simp at this); omega); have hl0 := Nat.le_of_lt hz0; have hz1 : w.heap.size + 1 < w'.heap.size := (by have := hb.size; (try simp at this); omega); have hl1 := Nat.le_of_lt hz1; have hz2 : w.heap.size + 1 + 1 < w'.heap.size := (by have := hb.size; (try simp at this); omega); have hl2 := Nat.le_of_lt hz2)
  exact bodyPost_ret (v := .agg #[.int .i64 a, .int .i64 b, .bool s]) (by simp [results, Tryz.results110, go_sem, hc]) rfl ⟨rfl, (by repeat (first | with_reducible exact Below.refl _ _ | (with_reducible refine bl_set2 ?_ ?_ _; (first | (simp; done) | (simp [*]; done) | (simp [*] <;> omega))) | with_reducible refine bl_drew ?_ | with_reducible refine bl_alloc ?_ _ | with_reducible refine below_step ?_ (by assumption) | with_reducible assumption))⟩
set_option maxHeartbeats 400000 in
theorem eqVal_same (a b : Int) (s : Bool) (w : World) : Calls Tryz.prog 111 #[.agg #[.int .i64 a, .int .i64 b, .bool s], .agg #[.int .i64 a, .int .i64 b, .bool s]] w fun e w' => e = .returned (.bool true) ∧ Below w.heap.size w w' := by
  have hs : (s != s) = false := by simp
  go_enter Tryz.func111, Tryz.ntmps111
  go_wp2_with (go_at_call 134; refine (eqRange_same _ _ _).mono ?_; rintro e w' ⟨rfl, hb⟩; (try rw [below_drew] at hb); obtain ⟨hc, hf, hm, hs⟩ := bcell4 hb; have hz0 : w.heap.size < w'.heap.size := (by have := hb.size; (try simp at this); omega); have hl0 := Nat.le_of_lt hz0; have hz1 : w.heap.size + 1 < w'.heap.size := (by have := hb.size; (try simp at this); omega); have hl1 := Nat.le_of_lt hz1)
  go_ret
  exact ⟨rfl, (by repeat (first | with_reducible exact Below.refl _ _ | (with_reducible refine bl_set2 ?_ ?_ _; (first | (simp; done) | (simp [*]; done) | (simp [*] <;> omega))) | with_reducible refine bl_drew ?_ | with_reducible refine bl_alloc ?_ _ | with_reducible refine below_step ?_ (by assumption) | with_reducible assumption))⟩
set_option maxHeartbeats 400000 in
theorem sVok_any (a b : Int) (s : Bool) (w : World) : Calls Tryz.prog 53 #[.agg #[.int .i64 a, .int .i64 b, .bool s]] w fun e w' => e = .returned (.bool (okB a b)) ∧ Below w.heap.size w w' := by
  go_enter Tryz.func53, Tryz.ntmps53
  go_wp2_with (go_at_call 106; refine (sOk_any _ _ _).mono ?_; rintro e w' ⟨rfl, hb⟩; (try rw [below_drew] at hb); obtain ⟨hc, hf, hm, hs⟩ := bcell4 hb; have hz0 : w.heap.size < w'.heap.size := (by have := hb.size; (try simp at this); omega); have hl0 := Nat.le_of_lt hz0)
  go_ret
  exact ⟨rfl, (by repeat (first | with_reducible exact Below.refl _ _ | (with_reducible refine bl_set2 ?_ ?_ _; (first | (simp; done) | (simp [*]; done) | (simp [*] <;> omega))) | with_reducible refine bl_drew ?_ | with_reducible refine bl_alloc ?_ _ | with_reducible refine below_step ?_ (by assumption) | with_reducible assumption))⟩
set_option maxHeartbeats 400000 in
theorem iVok_any (a b : Int) (s : Bool) (w : World) : Calls Tryz.prog 109 #[.agg #[.int .i64 a, .int .i64 b, .bool s]] w fun e w' => e = .returned (.bool (okB a b)) ∧ Below w.heap.size w w' := by
  go_enter Tryz.func109, Tryz.ntmps109
  go_wp2_with (go_at_call 132; refine (iOk_any _ _ _).mono ?_; rintro e w' ⟨rfl, hb⟩; (try rw [below_drew] at hb); obtain ⟨hc, hf, hm, hs⟩ := bcell4 hb; have hz0 : w.heap.size < w'.heap.size := (by have := hb.size; (try simp at this); omega); have hl0 := Nat.le_of_lt hz0)
  go_ret
  exact ⟨rfl, (by repeat (first | with_reducible exact Below.refl _ _ | (with_reducible refine bl_set2 ?_ ?_ _; (first | (simp; done) | (simp [*]; done) | (simp [*] <;> omega))) | with_reducible refine bl_drew ?_ | with_reducible refine bl_alloc ?_ _ | with_reducible refine below_step ?_ (by assumption) | with_reducible assumption))⟩
set_option maxHeartbeats 400000 in
theorem sVnone_any (w : World) : Calls Tryz.prog 81 #[] w fun e w' => e = .returned (.agg #[.int .i64 1, .int .i64 0, .bool true]) ∧ Below w.heap.size w w' := by
  go_enter Tryz.func81, Tryz.ntmps81
  go_wp2_with (go_at_call 82; refine (sNone_any _).mono ?_; rintro e w' ⟨rfl, hb⟩; (try rw [below_drew] at hb); obtain ⟨hc, hf, hm, hs⟩ := bcell4 hb; have hz0 : w.heap.size < w'.heap.size := (by have := hb.size; (try simp at this); omega); have hl0 := Nat.le_of_lt hz0)
  exact bodyPost_ret (v := .agg #[.int .i64 1, .int .i64 0, .bool true]) (by simp [results, Tryz.results81, go_sem, *]) rfl ⟨rfl, (by repeat (first | with_reducible exact Below.refl _ _ | (with_reducible refine bl_set2 ?_ ?_ _; (first | (simp; done) | (simp [*]; done) | (simp [*] <;> omega))) | with_reducible refine bl_drew ?_ | with_reducible refine bl_alloc ?_ _ | with_reducible refine below_step ?_ (by assumption) | with_reducible assumption))⟩
set_option maxHeartbeats 400000 in
theorem iVnone_any (w : World) : Calls Tryz.prog 119 #[] w fun e w' => e = .returned (.agg #[.int .i64 1, .int .i64 0, .bool true]) ∧ Below w.heap.size w w' := by
  go_enter Tryz.func119, Tryz.ntmps119
  go_wp2_with (go_at_call 137; refine (iNone_any _).mono ?_; rintro e w' ⟨rfl, hb⟩; (try rw [below_drew] at hb); obtain ⟨hc, hf, hm, hs⟩ := bcell4 hb; have hz0 : w.heap.size < w'.heap.size := (by have := hb.size; (try simp at this); omega); have hl0 := Nat.le_of_lt hz0)
  exact bodyPost_ret (v := .agg #[.int .i64 1, .int .i64 0, .bool true]) (by simp [results, Tryz.results119, go_sem, *]) rfl ⟨rfl, (by repeat (first | with_reducible exact Below.refl _ _ | (with_reducible refine bl_set2 ?_ ?_ _; (first | (simp; done) | (simp [*]; done) | (simp [*] <;> omega))) | with_reducible refine bl_drew ?_ | with_reducible refine bl_alloc ?_ _ | with_reducible refine below_step ?_ (by assumption) | with_reducible assumption))⟩
set_option maxHeartbeats 400000 in
theorem flagOf_any (a b : Int) (s : Bool) (w : World) : Calls Tryz.prog 120 #[.agg #[.int .i64 a, .int .i64 b, .bool s]] w fun e w' => e = .returned (.agg #[.int .i64 a, .int .i64 b, .bool s]) ∧ Below w.heap.size w w' := by
  go_enter Tryz.func120, Tryz.ntmps120
  go_wp2
  exact bodyPost_ret (v := .agg #[.int .i64 a, .int .i64 b, .bool s]) (by simp [results, Tryz.results120, go_sem]) rfl ⟨rfl, (by repeat (first | with_reducible exact Below.refl _ _ | (with_reducible refine bl_set2 ?_ ?_ _; (first | (simp; done) | (simp [*]; done) | (simp [*] <;> omega))) | with_reducible refine bl_drew ?_ | with_reducible refine bl_alloc ?_ _ | with_reducible refine below_step ?_ (by assumption) | with_reducible assumption))⟩
end Go.Proofs.YtbfmljogfljhdaaGreat
namespace Go.Proofs.YtbfmljogfljhdaaGreat
open Go.RowKit

theorem ft {p : Prop} (e : false = true) : p := by cases e
theorem tf {p : Prop} (e : true = false) : p := by cases e
/-- What an operation waits for has come up. -/
def metB (o : Oper) (L : Array Bool) : Bool := o.after.all fun e => !Region.binds .any e || L.getD e.on false
/-- Each of the operations from number k on may come up wherever the invariant holds, and leaves it. -/
def StepsI (P : Program) (ops : Array Oper) (Q : Exit → Act → World → Prop) (I : Array Bool → Act → World → Prop) (k : Nat) : Prop :=
  ∀ i, k ≤ i → i < ops.size → ∀ L a w, I L a w → i ∈ Region.ready .any ops L → wpOp P ops Q i (fun a' w' => I (L.setIfInBounds i true) a' w') a w
theorem StepsI.nil {P : Program} {ops : Array Oper} {Q : Exit → Act → World → Prop} {I : Array Bool → Act → World → Prop} {k : Nat} (h : ops.size = k) : StepsI P ops Q I k := fun i h1 h2 => by omega
theorem StepsI.cons {P : Program} {ops : Array Oper} {Q : Exit → Act → World → Prop} {I : Array Bool → Act → World → Prop} {k : Nat} {o : Oper} (ho : ops[k]? = some o)
    (h : ∀ L a w, I L a w → L.getD k true = false → metB o L = true → ∀ K' : Act → World → Prop, Shut (∀ a w, I (L.setIfInBounds k true) a w → K' a w) → if Region.wanted o (yielded ops a.tmps) = true then Oper.wp P o a w K' Q else K' (a.put o.dst undef) w)
    (hs : StepsI P ops Q I (k + 1)) : StepsI P ops Q I k := fun i h1 h2 L a w hI hr => by
  by_cases e : i = k
  · subst e
    obtain ⟨hL, o', ho', hall⟩ := mem_ready.1 hr
    obtain rfl : o = o' := Option.some.inj (ho.symm.trans ho')
    refine wpOp_step ho fun K' hK => h L a w hI hL ?_ K' hK
    unfold metB
    rw [Array.all_eq_true']
    intro e he
    cases hb : Region.binds .any e
    · rfl
    · rw [hall e he hb]; rfl
  · exact hs i (by omega) h2 L a w hI hr
/-- How many have not come up. -/
def left (n : Nat) (L : Array Bool) : Nat := ((List.range n).filter fun i => !L.getD i true).length
theorem left_next {n i : Nat} {L : Array Bool} (hi : i < n) (h : L.getD i true = false) : left n (L.setIfInBounds i true) < left n L := by
  unfold left
  have hsub : ∀ (l : List Nat), (l.filter fun j => !(L.setIfInBounds i true).getD j true).length ≤ (l.filter fun j => !L.getD j true).length ∧ (i ∈ l → (l.filter fun j => !(L.setIfInBounds i true).getD j true).length < (l.filter fun j => !L.getD j true).length) := by
    intro l
    induction l with
    | nil => exact ⟨by simp, fun h => by cases h⟩
    | cons j l ih =>
      have hj : (L.setIfInBounds i true).getD j true = if j = i then true else L.getD j true := by
        by_cases e : j = i
        · subst e
          rw [if_pos rfl]
          simp only [Array.getD_eq_getD_getElem?, Array.getElem?_setIfInBounds]
          by_cases hs : j < L.size
          · simp [hs]
          · simp [hs]
        · rw [if_neg e]
          simp only [Array.getD_eq_getD_getElem?, Array.getElem?_setIfInBounds]
          rw [if_neg (fun h => e h.symm)]
      have h1 := ih.1
      by_cases e : j = i
      · subst e
        rw [if_pos rfl] at hj
        rw [List.filter_cons_of_neg (by rw [hj]; decide), List.filter_cons_of_pos (by rw [h]; rfl), List.length_cons]
        exact ⟨by omega, fun _ => by omega⟩
      · rw [if_neg e] at hj
        have h2 := ih.2
        cases hL : L.getD j true
        · rw [List.filter_cons_of_pos (by rw [hj, hL]; rfl), List.filter_cons_of_pos (by rw [hL]; rfl), List.length_cons, List.length_cons]
          exact ⟨by omega, fun hm => by have := h2 (by rcases List.mem_cons.1 hm with h | h; exact absurd h.symm e; exact h); omega⟩
        · rw [List.filter_cons_of_neg (by rw [hj, hL]; decide), List.filter_cons_of_neg (by rw [hL]; decide)]
          exact ⟨h1, fun hm => h2 (by rcases List.mem_cons.1 hm with h | h; exact absurd h.symm e; exact h)⟩
  exact (hsub _).2 (List.mem_range.2 hi)
theorem wpAny_inv {P : Program} {ops : Array Oper} {Q : Exit → Act → World → Prop} {I : Array Bool → Act → World → Prop} (hs : StepsI P ops Q I 0)
    (he : ∀ L a w, I L a w → Region.ready .any ops L = [] → Q .normal a w) : ∀ (fuel : Nat) L a w, left ops.size L ≤ fuel → I L a w → wpAny P .any ops Q fuel L a w
  | 0, L, a, w, hf, hI => by
    have hr : Region.ready .any ops L = [] := List.eq_nil_iff_forall_not_mem.2 fun i hi => by
      obtain ⟨hL, o, ho, _⟩ := mem_ready.1 hi
      have := left_next (Array.getElem?_eq_some_iff.1 ho).1 hL
      omega
    exact ⟨hr, he L a w hI hr⟩
  | fuel + 1, L, a, w, hf, hI => by
    refine ⟨fun h => he L a w hI h, fun i hi => ?_⟩
    obtain ⟨hL, o, ho, _⟩ := mem_ready.1 hi
    have hi' := (Array.getElem?_eq_some_iff.1 ho).1
    have hlt := left_next hi' hL
    exact wpOp_mono (fun a' w' h => wpAny_inv hs he fuel _ a' w' (by omega) h) (hs i (Nat.zero_le _) hi' L a w hI hi)
/-- THE RULE. -/
theorem wp_region_inv {P : Program} {ops : Array Oper} {Q : Exit → Act → World → Prop} {id : Nat} {a : Act} {w : World} (I : Array Bool → Act → World → Prop) (hm : P.follows .mixedOrders = true)
    (h0 : I (Array.replicate ops.size false) a w.drew) (hs : StepsI P ops Q I 0) (he : ∀ L a w, I L a w → Region.ready .any ops L = [] → Q .normal a w) : (Code.region id ops true).wp P Q a w :=
  wp_region_any hm (wpAny_inv hs he _ _ _ _ (by
    unfold left
    refine Nat.le_trans (List.length_filter_le _ _) ?_
    simp) h0)

/-- No operation waits for a later one. -/
def forthB (ops : Array Oper) : Bool := (List.range ops.size).all fun i => match ops[i]? with | some o => o.after.all fun e => !Region.binds .any e || decide (e.on < i) | none => true
/-- Where none may come up all have. -/
theorem all_up {ops : Array Oper} {L : Array Bool} (hf : forthB ops = true) {N : Nat} (hN : ops.size = N) (hr : Region.ready .any ops L = []) : ∀ i, i < N → L.getD i false = true ∨ L.size ≤ i := by
  subst hN
  intro i
  induction i using Nat.strongRecOn with
  | ind i ih =>
    intro hi
    by_cases hs : L.size ≤ i
    · exact .inr hs
    · refine .inl ?_
      cases hL : L.getD i false with
      | true => rfl
      | false =>
        exfalso
        have hL' : L.getD i true = false := by
          simp only [Array.getD_eq_getD_getElem?] at hL ⊢
          rw [Array.getElem?_eq_getElem (by omega)] at hL ⊢
          exact hL
        have hf' := List.all_eq_true.1 hf i (List.mem_range.2 hi)
        rw [Array.getElem?_eq_getElem hi] at hf'
        have : i ∈ Region.ready .any ops L := mem_ready.2 ⟨hL', ops[i], Array.getElem?_eq_getElem hi, fun e he hbd => by
          have h0 := Array.all_eq_true'.1 hf' e he
          rw [hbd] at h0
          have h1 := of_decide_eq_true (by simpa using h0 : decide (e.on < i) = true)
          rcases ih e.on h1 (by omega) with h | h
          · exact h
          · omega⟩
        rw [hr] at this
        cases this
/-- Temporaries that have been put anew. -/
def puts (a : Act) : List (Nat × Value) → Act
  | [] => a
  | (t, v) :: l => puts (a.put (some t) v) l
/-- THE RULE, the state at the region's beginning handed to the invariant. -/
theorem wp_region_inv2 {P : Program} {ops : Array Oper} {Q : Exit → Act → World → Prop} {id : Nat} {a : Act} {w : World} (I : Act → Array Bool → Act → World → Prop) (hm : P.follows .mixedOrders = true)
    (h0 : I a (Array.replicate ops.size false) a w.drew) (hs : StepsI P ops Q (I a) 0) (he : ∀ L a' v, I a L a' v → Region.ready .any ops L = [] → Q .normal a' v) : (Code.region id ops true).wp P Q a w :=
  wp_region_inv (I a) hm h0 hs he

/-- A Val in a block that may be written. -/
structure V3 (v : World) (X : Nat) (a b : Int) (s : Bool) : Prop where
  c0 : v.cell? ⟨X, 0, none⟩ = some (.int .i64 a)
  c1 : v.cell? ⟨X, 1, none⟩ = some (.int .i64 b)
  c2 : v.cell? ⟨X, 2, none⟩ = some (.bool s)
  f0 : v.frozen? ⟨X, 0, none⟩ = false
  f1 : v.frozen? ⟨X, 1, none⟩ = false
  f2 : v.frozen? ⟨X, 2, none⟩ = false
theorem V3.lt {v : World} {X : Nat} {a b : Int} {s : Bool} (h : V3 v X a b s) : X < v.heap.size := World.block_lt_of_cell? v _ h.c0
theorem V3.below {v v' : World} {X : Nat} {a b : Int} {s : Bool} (h : V3 v X a b s) (hb : Below v.heap.size v v') : V3 v' X a b s := by
  obtain ⟨hc, hf⟩ := bcell hb
  have hl := h.lt
  exact ⟨(hc _ _ hl).trans h.c0, (hc _ _ hl).trans h.c1, (hc _ _ hl).trans h.c2, (hf _ _ hl).trans h.f0, (hf _ _ hl).trans h.f1, (hf _ _ hl).trans h.f2⟩
theorem V3.drew {v : World} {X : Nat} {a b : Int} {s : Bool} (h : V3 v X a b s) : V3 v.drew X a b s := ⟨h.c0, h.c1, h.c2, h.f0, h.f1, h.f2⟩
theorem V3.new (w : World) (a b : Int) (s : Bool) (T : TypeId) : V3 (w.alloc (.cells #[.int .i64 a, .int .i64 b, .bool s] T)) w.heap.size a b s := by
  constructor <;> simp [go_sem]
theorem V3.set {v : World} {X : Nat} {a b : Int} {s : Bool} (h : V3 v X a b s) (c d : Int) (t : Bool) : V3 (((v.setCell ⟨X, 0, none⟩ (.int .i64 c)).setCell ⟨X, 1, none⟩ (.int .i64 d)).setCell ⟨X, 2, none⟩ (.bool t)) X c d t := by
  obtain ⟨c0, c1, c2, f0, f1, f2⟩ := h
  constructor <;> simp [go_sem, *]
theorem V3.other {v : World} {X Y : Nat} {a b : Int} {s : Bool} (h : V3 v X a b s) (hn : X ≠ Y) (x y z : Value) : V3 (((v.setCell ⟨Y, 0, none⟩ x).setCell ⟨Y, 1, none⟩ y).setCell ⟨Y, 2, none⟩ z) X a b s := by
  obtain ⟨c0, c1, c2, f0, f1, f2⟩ := h
  constructor <;> simp [go_sem, *]
end Go.Proofs.YtbfmljogfljhdaaGreat
namespace Go.Proofs.YtbfmljogfljhdaaGreat

abbrev Y := Int × Int
def LtY (a b : Y) : Prop := a.1 < b.1 ∨ (a.1 = b.1 ∧ a.2 < b.2)
instance (a b : Y) : Decidable (LtY a b) := by unfold LtY; infer_instance
theorem LtY.irrefl (a : Y) : ¬ LtY a a := by unfold LtY; omega
theorem LtY.trans {a b c : Y} (h : LtY a b) (g : LtY b c) : LtY a c := by unfold LtY at *; omega
theorem LtY.ne {a b : Y} (h : LtY a b) : a ≠ b := fun e => LtY.irrefl a (by rw [← e] at h; exact h)
theorem LtY.tri (a b : Y) : a = b ∨ LtY a b ∨ LtY b a := by
  unfold LtY
  obtain ⟨a1, a2⟩ := a
  obtain ⟨b1, b2⟩ := b
  simp only [Prod.mk.injEq]
  omega
def cmpI (a b : Int) : Int := if a < b then -1 else if b < a then 1 else 0
def cmpY (a b : Y) : Int := if cmpI a.1 b.1 ≠ 0 then cmpI a.1 b.1 else cmpI a.2 b.2
theorem cmpY_lt (a b : Y) : cmpY a b < 0 ↔ LtY a b := by
  unfold cmpY cmpI LtY
  repeat' split
  all_goals omega
theorem cmpY_zero (a b : Y) : cmpY a b = 0 ↔ a = b := by
  obtain ⟨a1, a2⟩ := a
  obtain ⟨b1, b2⟩ := b
  unfold cmpY cmpI
  simp only [Prod.mk.injEq]
  repeat' split
  all_goals omega
/-- A list of terms, ascending, with just these members. -/
structure IsSet (m L : List Y) : Prop where
  asc : m.Pairwise LtY
  mem : ∀ p, p ∈ m ↔ p ∈ L
theorem asc_nodup {m : List Y} (h : m.Pairwise LtY) : m.Nodup := h.imp fun h => h.ne
theorem asc_unique : ∀ {m m' : List Y}, m.Pairwise LtY → m'.Pairwise LtY → (∀ p, p ∈ m ↔ p ∈ m') → m = m'
  | [], [], _, _, _ => rfl
  | [], b :: l', _, _, h => absurd ((h b).2 (by simp)) (by simp)
  | a :: l, [], _, _, h => absurd ((h a).1 (by simp)) (by simp)
  | a :: l, b :: l', ha, hb, h => by
    rw [List.pairwise_cons] at ha hb
    have e : a = b := by
      rcases LtY.tri a b with e | e | e
      · exact e
      · rcases List.mem_cons.1 ((h a).1 (by simp)) with e2 | e2
        · exact e2
        · exact absurd (e.trans (hb.1 a e2)) (LtY.irrefl a)
      · rcases List.mem_cons.1 ((h b).2 (by simp)) with e2 | e2
        · exact e2.symm
        · exact absurd (e.trans (ha.1 b e2)) (LtY.irrefl b)
    subst e
    congr 1
    refine asc_unique ha.2 hb.2 fun p => ⟨fun hp => ?_, fun hp => ?_⟩
    · rcases List.mem_cons.1 ((h p).1 (by simp [hp])) with e2 | e2
      · subst e2
        exact absurd (ha.1 _ hp) (LtY.irrefl _)
      · exact e2
    · rcases List.mem_cons.1 ((h p).2 (by simp [hp])) with e2 | e2
      · subst e2
        exact absurd (hb.1 _ hp) (LtY.irrefl _)
      · exact e2
theorem IsSet.unique {m m' L : List Y} (h : IsSet m L) (h' : IsSet m' L) : m = m' := asc_unique h.asc h'.asc fun p => (h.mem p).trans (h'.mem p).symm
theorem IsSet.self {L : List Y} (h : L.Pairwise LtY) : IsSet L L := ⟨h, fun _ => Iff.rfl⟩
theorem IsSet.same {m L : List Y} (h : IsSet m L) : L = m ↔ L.Pairwise LtY :=
  ⟨fun e => by rw [e]; exact h.asc, fun a => (h.unique (IsSet.self a)).symm⟩
theorem IsSet.le {m L : List Y} (h : IsSet m L) : m.length ≤ L.length := (asc_nodup h.asc).length_le_of_subset fun p hp => (h.mem p).1 hp
theorem IsSet.full {m L : List Y} (h : IsSet m L) : m.length = L.length ↔ L.Nodup := by
  refine ⟨fun e => ?_, fun nd => ?_⟩
  · -- the set is as long as the list: nothing stands twice
    refine Classical.byContradiction fun hn => ?_
    have key : ∀ {l : List Y}, ¬ l.Nodup → ∃ l' : List Y, l'.length < l.length ∧ ∀ p, p ∈ l ↔ p ∈ l' := by
      intro l
      induction l with
      | nil => intro h; exact absurd List.nodup_nil h
      | cons a l ih =>
        intro h
        by_cases ha : a ∈ l
        · exact ⟨l, by simp, fun p => by simp; intro e; subst e; exact ha⟩
        · have : ¬ l.Nodup := fun g => h (List.nodup_cons.2 ⟨ha, g⟩)
          obtain ⟨l', h1, h2⟩ := ih this
          exact ⟨a :: l', by simp; omega, fun p => by simp [h2 p]⟩
    obtain ⟨l', h1, h2⟩ := key hn
    have h3 := (IsSet.mk h.asc fun p => (h.mem p).trans (h2 p)).le
    omega
  · exact ((List.perm_ext_iff_of_nodup (asc_nodup h.asc) nd).2 h.mem).length_eq
theorem IsSet.nil : IsSet [] [] := ⟨List.Pairwise.nil, fun _ => Iff.rfl⟩
/-- One more, which the last one is. -/
theorem IsSet.again {m L : List Y} {a : Y} (h : IsSet m L) (hl : a ∈ L) : IsSet m (L ++ [a]) :=
  ⟨h.asc, fun p => by rw [h.mem p]; simp; intro e; subst e; exact hl⟩
/-- One more, beyond all. -/
theorem IsSet.more {m L : List Y} {a : Y} (h : IsSet m L) (hl : ∀ p, p ∈ L → LtY p a) : IsSet (m ++ [a]) (L ++ [a]) :=
  ⟨List.pairwise_append.2 ⟨h.asc, by simp, fun p hp q hq => by simp at hq; subst hq; exact hl p ((h.mem p).1 hp)⟩, fun p => by simp [h.mem p]⟩
/-! Segments as data -/
abbrev VV := Int × Int × Bool
def lenP (size l : Int) : Prop := (2 ≤ size ∧ size ≤ 13) ∧ (1 ≤ l ∧ l ≤ size - 1)
instance (size l : Int) : Decidable (lenP size l) := by unfold lenP; infer_instance
def symP (size : Int) (p : Y) : Prop := (1 ≤ size ∧ size ≤ 13) ∧ (0 ≤ p.1 ∧ p.1 ≤ size - 1) ∧ (-1000 ≤ p.2 ∧ p.2 ≤ 1000)
instance (size : Int) (p : Y) : Decidable (symP size p) := by unfold symP; infer_instance
structure RowP (size : Int) (b : List Y) : Prop where
  ne : b ≠ []
  sym : ∀ p, p ∈ b → symP size p
  asc : b.Pairwise LtY
structure OkS (size l : Int) (B : List (List Y)) (V : List VV) (M : List Bool) : Prop where
  len : lenP size l
  k1 : 1 ≤ B.length
  k2 : B.length ≤ 16
  v : V.length + 1 = B.length
  m : M.length + 1 = B.length
  tot : B.flatten.length ≤ 40
  rows : ∀ b, b ∈ B → RowP size b
  nodup : B.flatten.Nodup
  vals : ∀ v, v ∈ V → okB v.1 v.2.1 = true
  first : ((0, 0) : Y) ∈ B.headD []
  last : ((l, 0) : Y) ∈ B.getLastD []
/-- The first row in which a term stands. -/
def inY (B : List (List Y)) (t : Y) : Option Nat := B.findIdx? fun b => decide (t ∈ b)
def toI : Option Nat → Int
  | some n => n
  | none => -1
theorem inY_some {B : List (List Y)} {t : Y} {i : Nat} : inY B t = some i ↔ ∃ h : i < B.length, t ∈ B[i] ∧ ∀ j (hj : j < i), t ∉ B[j] := by
  unfold inY
  rw [List.findIdx?_eq_some_iff_getElem]
  simp
theorem inY_none {B : List (List Y)} {t : Y} : inY B t = none ↔ ∀ b, b ∈ B → t ∉ b := by
  unfold inY
  rw [List.findIdx?_eq_none_iff]
  simp
theorem toI_eq {o : Option Nat} {i : Nat} : toI o = (i : Int) ↔ o = some i := by
  cases o with
  | none => simp [toI]
  | some n => simp [toI]; omega
/-- All terms stand first where they stand: no two rows have one in common. -/
theorem nodup_of_in {B : List (List Y)} (ha : ∀ b, b ∈ B → b.Pairwise LtY) (h : ∀ (i : Nat) (b : List Y), B[i]? = some b → ∀ p, p ∈ b → inY B p = some i) : B.flatten.Nodup := by
  refine List.pairwise_flatten.2 ⟨fun b hb => asc_nodup (ha b hb), ?_⟩
  rw [List.pairwise_iff_getElem]
  intro i j hi hj hij p hp q hq e
  subst e
  have h1 := h i B[i] (List.getElem?_eq_getElem hi) p hp
  have h2 := h j B[j] (List.getElem?_eq_getElem hj) p hq
  rw [h1] at h2
  simp at h2
  omega
theorem in_of_nodup {B : List (List Y)} (h : B.flatten.Nodup) {i : Nat} {b : List Y} (hb : B[i]? = some b) {p : Y} (hp : p ∈ b) : inY B p = some i := by
  obtain ⟨hi, rfl⟩ := List.getElem?_eq_some_iff.1 hb
  refine inY_some.2 ⟨hi, hp, fun j hj hq => ?_⟩
  have := (List.pairwise_flatten.1 h).2
  rw [List.pairwise_iff_getElem] at this
  exact this j i (by omega) hi hj p hq p hp rfl
theorem tot_take (B : List (List Y)) (i : Nat) : (B.take i).flatten.length ≤ B.flatten.length := by
  have : B.flatten = (B.take i).flatten ++ (B.drop i).flatten := by rw [← List.flatten_append, List.take_append_drop]
  rw [this]; simp
theorem tot_succ {B : List (List Y)} {i : Nat} {b : List Y} (h : B[i]? = some b) : (B.take (i + 1)).flatten.length = (B.take i).flatten.length + b.length := by
  rw [List.take_add_one, h]; simp
end Go.Proofs.YtbfmljogfljhdaaGreat
namespace Go.Proofs.YtbfmljogfljhdaaGreat
open Go.RowKit

def symOkB (n v c : Int) : Bool := btw n 1 13 && (btw v 0 (n - 1) && btw c (-1000) 1000)
def lessB (a b c d : Int) : Bool := decide (a < c ∨ a = c ∧ b < d)
theorem Box.new' (w : World) (x y : Int) (T : TypeId) : Box (w.alloc (.cells #[.int .i64 x, .int .i64 y] T)) w.heap.size x y := ⟨by simp [go_sem], by simp [go_sem], by simp [go_sem], by simp [go_sem]⟩
def orI (x y : Int) : Int := if x = 0 then y else x
set_option maxRecDepth 100000 in
set_option maxHeartbeats 400000 in
theorem toSym_any (a b : Int) (w : World) : Calls Tryz.prog 70 #[.agg #[.int .i64 a, .int .i64 b]] w fun e w' => e = .returned (.agg #[.int .i64 a, .int .i64 b]) ∧ Below w.heap.size w w' := by
  go_enter Tryz.func70, Tryz.ntmps70
  go_wp2
  exact bodyPost_ret (v := .agg #[.int .i64 a, .int .i64 b]) (by simp [results, Tryz.results70, go_sem]) rfl ⟨rfl, (((Below.refl _ _).alloc (Nat.le_refl _) _).alloc (by simp) _).alloc (by simp; omega) _⟩
theorem notNaN_any (x : Int) (w : World) : Calls Tryz.prog 142 #[.int .i64 x] w fun e w' => e = .returned (.bool false) ∧ w = w' := by
  go_enter Tryz.func142, Tryz.ntmps142
  have hx : (x != x) = false := by simp
  go_wp2
  go_ret
  exact ⟨rfl, rfl⟩
theorem compare_any (x y : Int) (w : World) : Calls Tryz.prog 128 #[.int .i64 x, .int .i64 y] w fun e w' => e = .returned (.int .i64 (cmpI x y)) ∧ w = w' := by
  unfold cmpI
  by_cases h1 : x < y
  · rw [if_pos h1]
    go_enter Tryz.func128, Tryz.ntmps128
    go_wp2_with (first | (go_at_call 142; refine (notNaN_any _ _).mono ?_; rintro e w' ⟨rfl, rfl⟩))
    go_ret
    exact ⟨rfl, rfl⟩
  · rw [if_neg h1]
    by_cases h2 : y < x
    · rw [if_pos h2]
      go_enter Tryz.func128, Tryz.ntmps128
      go_wp2_with (first | (go_at_call 142; refine (notNaN_any _ _).mono ?_; rintro e w' ⟨rfl, rfl⟩))
      go_ret
      exact ⟨rfl, rfl⟩
    · rw [if_neg h2]
      go_enter Tryz.func128, Tryz.ntmps128
      go_wp2_with (first | (go_at_call 142; refine (notNaN_any _ _).mono ?_; rintro e w' ⟨rfl, rfl⟩))
      go_ret
      exact ⟨rfl, rfl⟩
set_option maxHeartbeats 800000 in
theorem or2_any (x y : Int) (R c : Nat) (w : World) (h0 : w.cell? ⟨R, 0, none⟩ = some (.int .i64 x)) (h1 : w.cell? ⟨R, 1, none⟩ = some (.int .i64 y)) : Calls Tryz.prog 127 #[.slice (some ⟨R, 0, none⟩) 2 c] w fun e w' => e = .returned (.int .i64 (orI x y)) ∧ w = w' := by
  obtain ⟨r, hr⟩ : ∃ r, orI x y = r := ⟨_, rfl⟩
  have HR := mkHid hr
  rw [hr]
  clear hr
  go_enter Tryz.func127, Tryz.ntmps127
  go_wp2_with fail
  go_loopg [8, 5] 2 (fun g s8 s5 wr => ∃ u : Nat, u + g = 2 ∧ s8 = .int .i64 u ∧ wr = w ∧ (1 ≤ u → x = 0) ∧ (2 ≤ u → y = 0))
  case atStart => exact ⟨0, rfl, rfl, rfl, fun h => by omega, fun h => by omega⟩
  case round =>
    obtain ⟨u, hu, rfl, rfl, hx, hy⟩ := hrel
    have HX := mkHid hx
    have HY := mkHid hy
    clear hx hy
    match gk, u, hu with
    | 0, 2, _ =>
      have e : Hid (0 = r) := mkHid (by rw [← HR.out]; unfold orI; rw [if_pos (HX.out (by omega))]; exact (HY.out (by omega)).symm)
      go_wp2
      go_ret
      exact ⟨ret_int e.out, rfl⟩
    | 1, 1, _ =>
      have e : Hid (y = r) := mkHid (by rw [← HR.out]; unfold orI; rw [if_pos (HX.out (by omega))])
      by_cases hy : y = 0
      · subst hy
        go_wp2
        go_roundg 0
        case measure => omega
        case rel => exact ⟨2, by omega, by go_num, rfl, fun _ => HX.out (by omega), fun _ => by trivial⟩
      · have hb : (y != 0) = true := by simp [hy]
        go_wp2
        go_ret
        exact ⟨ret_int e.out, rfl⟩
    | 2, 0, _ =>
      by_cases hx : x = 0
      · subst hx
        go_wp2
        go_roundg 1
        case measure => omega
        case rel => exact ⟨1, by omega, by go_num, rfl, fun _ => by trivial, fun h => by omega⟩
      · have hb : (x != 0) = true := by simp [hx]
        have e : Hid (x = r) := mkHid (by rw [← HR.out]; unfold orI; rw [if_neg hx])
        go_wp2
        go_ret
        exact ⟨ret_int e.out, rfl⟩
set_option maxRecDepth 100000 in
set_option maxHeartbeats 1600000 in
theorem compareSyms_any (a b c d : Int) (w : World) : Calls Tryz.prog 101 #[.agg #[.int .i64 a, .int .i64 b], .agg #[.int .i64 c, .int .i64 d]] w fun e w' => e = .returned (.int .i64 (orI (cmpI a c) (cmpI b d))) ∧ Below w.heap.size w w' ∧ w.drawn ≤ w'.drawn := by
  have B0 := mkHid (((Below.refl w.heap.size w).alloc (Nat.le_refl _) (.cells #[.int .i64 a, .int .i64 b] 39)).alloc (by simp) (.cells #[.int .i64 c, .int .i64 d] 39))
  have P0 : Hid (Box ((w.alloc (.cells #[.int .i64 a, .int .i64 b] 39)).alloc (.cells #[.int .i64 c, .int .i64 d] 39)) w.heap.size a b) := mkHid ((Box.new' w a b 39).below ((Below.refl _ _).alloc (Nat.le_refl _) _))
  have Q0 : Hid (Box ((w.alloc (.cells #[.int .i64 a, .int .i64 b] 39)).alloc (.cells #[.int .i64 c, .int .i64 d] 39)) (w.heap.size + 1) c d) := mkHid (by have := Box.new' (w.alloc (.cells #[.int .i64 a, .int .i64 b] 39)) c d 39; simpa using this)
  obtain ⟨w1, hw1⟩ : ∃ w1, (w.alloc (.cells #[.int .i64 a, .int .i64 b] 39)).alloc (.cells #[.int .i64 c, .int .i64 d] 39) = w1 := ⟨_, rfl⟩
  rw [hw1] at B0 P0 Q0
  have D0 : Hid (w.drawn ≤ w1.drawn) := mkHid (by rw [← hw1]; exact Nat.le_refl _)
  have HW := mkHid hw1
  have hBox : ∀ v, Below w1.heap.size w1 v → Box v w.heap.size a b ∧ Box v (w.heap.size + 1) c d := fun v h => ⟨P0.out.below h, Q0.out.below h⟩
  clear hw1
  go_enter Tryz.func101, Tryz.ntmps101
  go_wp2_with fail
  rw [HW.out]
  refine wp_region_inv2 (fun zA0 L zA v => ∃ (zB : Nat → Bool) (zS : Nat → Value) (R : Nat), L = #[zB 0, zB 1, zB 2, zB 3, zB 4, zB 5, zB 6, zB 7, zB 8, zB 9, zB 10, zB 11, zB 12] ∧ zA = puts zA0 [(5, zS 5), (6, zS 6), (7, zS 7), (8, zS 8), (9, zS 9), (10, zS 10), (11, zS 11), (12, zS 12), (13, zS 13), (14, zS 14), (15, zS 15), (16, zS 16), (4, zS 4)] ∧ ((zB 0 = true → zS 5 = .pointer (some ⟨w.heap.size, 0, none⟩)) ∧ (zB 1 = true → zS 6 = .int .i64 a) ∧ (zB 2 = true → zS 7 = .pointer (some ⟨w.heap.size + 1, 0, none⟩)) ∧ (zB 3 = true → zS 8 = .int .i64 c) ∧ (zB 4 = true → zS 9 = .int .i64 (cmpI a c)) ∧ (zB 5 = true → zS 10 = .pointer (some ⟨w.heap.size, 1, none⟩)) ∧ (zB 6 = true → zS 11 = .int .i64 b) ∧ (zB 7 = true → zS 12 = .pointer (some ⟨w.heap.size + 1, 1, none⟩)) ∧ (zB 8 = true → zS 13 = .int .i64 d) ∧ (zB 9 = true → zS 14 = .int .i64 (cmpI b d)) ∧ (zB 10 = true → zS 15 = .slice (some ⟨R, 0, none⟩) 2 2) ∧ (zB 11 = true → zS 16 = .int .i64 (orI (cmpI a c) (cmpI b d))) ∧ (zB 12 = true → zS 4 = .int .i64 (orI (cmpI a c) (cmpI b d)))) ∧ (Below w1.heap.size w1 v ∧ w1.drawn ≤ v.drawn) ∧ ((zB 10) = true → v.cell? ⟨R, 0, none⟩ = some (.int .i64 (cmpI a c)) ∧ v.cell? ⟨R, 1, none⟩ = some (.int .i64 (cmpI b d)))) (by kernel_rfl) ?_ ?_ ?_
  · exact ⟨fun _ => false, fun zd => if zd = 4 then .int .i64 0 else undef, 0, rfl, by kernel_rfl, ⟨fun e => ft e, fun e => ft e, fun e => ft e, fun e => ft e, fun e => ft e, fun e => ft e, fun e => ft e, fun e => ft e, fun e => ft e, fun e => ft e, fun e => ft e, fun e => ft e, fun e => ft e⟩, ⟨⟨(Below.refl _ _).drew, Nat.le_succ _⟩, fun e => ft e⟩⟩
  · refine StepsI.cons rfl ?_ ?_
    · rintro L zA v ⟨zB, zS, R, rfl, rfl, hF, hW⟩ hL hm K hK
      have hb0 : zB 0 = false := by simpa using hL
      clear hL hm
      simp only [puts, Act.put, List.setIfInBounds_toArray, List.set_cons_zero, List.set_cons_succ]
      go_simp
      obtain ⟨_, F1, F2, F3, F4, F5, F6, F7, F8, F9, F10, F11, F12⟩ := hF
      exact hK.out _ _ ⟨fun zj => if zj = 0 then true else zB zj, fun zd => if zd = 5 then .pointer (some ⟨w.heap.size, 0, none⟩) else zS zd, R, rfl, by kernel_rfl, ⟨fun _ => rfl, F1, F2, F3, F4, F5, F6, F7, F8, F9, F10, F11, F12⟩, hW⟩
    refine StepsI.cons rfl ?_ ?_
    · rintro L zA v ⟨zB, zS, R, rfl, rfl, hF, hW⟩ hL hm K hK
      have hb1 : zB 1 = false := by simpa using hL
      have hb0 : zB 0 = true := by cases e : zB 0 with | false => (exfalso; revert hm; simp [metB, Region.binds, e]) | true => rfl
      have e0 := hF.1 hb0
      clear hL hm
      simp only [puts, Act.put, List.setIfInBounds_toArray, List.set_cons_zero, List.set_cons_succ]
      simp only [e0]
      obtain ⟨⟨q0, q1, q2, q3⟩, p0, p1, p2, p3⟩ := hBox _ hW.1.1
      go_simp
      obtain ⟨_, _, F2, F3, F4, F5, F6, F7, F8, F9, F10, F11, F12⟩ := hF
      exact hK.out _ _ ⟨fun zj => if zj = 0 then true else if zj = 1 then true else zB zj, fun zd => if zd = 6 then .int .i64 a else if zd = 5 then .pointer (some ⟨w.heap.size, 0, none⟩) else zS zd, R, by simp [hb0], by kernel_rfl, ⟨fun _ => rfl, fun _ => rfl, F2, F3, F4, F5, F6, F7, F8, F9, F10, F11, F12⟩, hW⟩
    refine StepsI.cons rfl ?_ ?_
    · rintro L zA v ⟨zB, zS, R, rfl, rfl, hF, hW⟩ hL hm K hK
      have hb2 : zB 2 = false := by simpa using hL
      clear hL hm
      simp only [puts, Act.put, List.setIfInBounds_toArray, List.set_cons_zero, List.set_cons_succ]
      go_simp
      obtain ⟨F0, F1, _, F3, F4, F5, F6, F7, F8, F9, F10, F11, F12⟩ := hF
      exact hK.out _ _ ⟨fun zj => if zj = 2 then true else zB zj, fun zd => if zd = 7 then .pointer (some ⟨w.heap.size + 1, 0, none⟩) else zS zd, R, rfl, by kernel_rfl, ⟨F0, F1, fun _ => rfl, F3, F4, F5, F6, F7, F8, F9, F10, F11, F12⟩, hW⟩
    refine StepsI.cons rfl ?_ ?_
    · rintro L zA v ⟨zB, zS, R, rfl, rfl, hF, hW⟩ hL hm K hK
      have hb3 : zB 3 = false := by simpa using hL
      have hb2 : zB 2 = true := by cases e : zB 2 with | false => (exfalso; revert hm; simp [metB, Region.binds, e]) | true => rfl
      have e2 := hF.2.2.1 hb2
      clear hL hm
      simp only [puts, Act.put, List.setIfInBounds_toArray, List.set_cons_zero, List.set_cons_succ]
      simp only [e2]
      obtain ⟨⟨q0, q1, q2, q3⟩, p0, p1, p2, p3⟩ := hBox _ hW.1.1
      go_simp
      obtain ⟨F0, F1, _, _, F4, F5, F6, F7, F8, F9, F10, F11, F12⟩ := hF
      exact hK.out _ _ ⟨fun zj => if zj = 2 then true else if zj = 3 then true else zB zj, fun zd => if zd = 8 then .int .i64 c else if zd = 7 then .pointer (some ⟨w.heap.size + 1, 0, none⟩) else zS zd, R, by simp [hb2], by kernel_rfl, ⟨F0, F1, fun _ => rfl, fun _ => rfl, F4, F5, F6, F7, F8, F9, F10, F11, F12⟩, hW⟩
    refine StepsI.cons rfl ?_ ?_
    · rintro L zA v ⟨zB, zS, R, rfl, rfl, hF, hW⟩ hL hm K hK
      have hb4 : zB 4 = false := by simpa using hL
      have hb1 : zB 1 = true := by cases e : zB 1 with | false => (exfalso; revert hm; simp [metB, Region.binds, e]) | true => rfl
      have hb3 : zB 3 = true := by cases e : zB 3 with | false => (exfalso; revert hm; simp [metB, Region.binds, e]) | true => rfl
      have e1 := hF.2.1 hb1
      have e3 := hF.2.2.2.1 hb3
      clear hL hm
      simp only [puts, Act.put, List.setIfInBounds_toArray, List.set_cons_zero, List.set_cons_succ]
      simp only [e1, e3]
      go_simp
      refine (compare_any _ _ _).mono ?_
      rintro e v2 ⟨rfl, rfl⟩
      go_wp2_with fail
      obtain ⟨F0, _, F2, _, _, F5, F6, F7, F8, F9, F10, F11, F12⟩ := hF
      exact hK.out _ _ ⟨fun zj => if zj = 3 then true else if zj = 1 then true else if zj = 4 then true else zB zj, fun zd => if zd = 9 then .int .i64 (cmpI a c) else if zd = 8 then .int .i64 c else if zd = 6 then .int .i64 a else zS zd, R, by simp [hb1, hb3], by kernel_rfl, ⟨F0, fun _ => rfl, F2, fun _ => rfl, fun _ => rfl, F5, F6, F7, F8, F9, F10, F11, F12⟩, hW⟩
    refine StepsI.cons rfl ?_ ?_
    · rintro L zA v ⟨zB, zS, R, rfl, rfl, hF, hW⟩ hL hm K hK
      have hb5 : zB 5 = false := by simpa using hL
      clear hL hm
      simp only [puts, Act.put, List.setIfInBounds_toArray, List.set_cons_zero, List.set_cons_succ]
      go_simp
      obtain ⟨F0, F1, F2, F3, F4, _, F6, F7, F8, F9, F10, F11, F12⟩ := hF
      exact hK.out _ _ ⟨fun zj => if zj = 5 then true else zB zj, fun zd => if zd = 10 then .pointer (some ⟨w.heap.size, 1, none⟩) else zS zd, R, rfl, by kernel_rfl, ⟨F0, F1, F2, F3, F4, fun _ => rfl, F6, F7, F8, F9, F10, F11, F12⟩, hW⟩
    refine StepsI.cons rfl ?_ ?_
    · rintro L zA v ⟨zB, zS, R, rfl, rfl, hF, hW⟩ hL hm K hK
      have hb6 : zB 6 = false := by simpa using hL
      have hb5 : zB 5 = true := by cases e : zB 5 with | false => (exfalso; revert hm; simp [metB, Region.binds, e]) | true => rfl
      have e5 := hF.2.2.2.2.2.1 hb5
      clear hL hm
      simp only [puts, Act.put, List.setIfInBounds_toArray, List.set_cons_zero, List.set_cons_succ]
      simp only [e5]
      obtain ⟨⟨q0, q1, q2, q3⟩, p0, p1, p2, p3⟩ := hBox _ hW.1.1
      go_simp
      obtain ⟨F0, F1, F2, F3, F4, _, _, F7, F8, F9, F10, F11, F12⟩ := hF
      exact hK.out _ _ ⟨fun zj => if zj = 5 then true else if zj = 6 then true else zB zj, fun zd => if zd = 11 then .int .i64 b else if zd = 10 then .pointer (some ⟨w.heap.size, 1, none⟩) else zS zd, R, by simp [hb5], by kernel_rfl, ⟨F0, F1, F2, F3, F4, fun _ => rfl, fun _ => rfl, F7, F8, F9, F10, F11, F12⟩, hW⟩
    refine StepsI.cons rfl ?_ ?_
    · rintro L zA v ⟨zB, zS, R, rfl, rfl, hF, hW⟩ hL hm K hK
      have hb7 : zB 7 = false := by simpa using hL
      clear hL hm
      simp only [puts, Act.put, List.setIfInBounds_toArray, List.set_cons_zero, List.set_cons_succ]
      go_simp
      obtain ⟨F0, F1, F2, F3, F4, F5, F6, _, F8, F9, F10, F11, F12⟩ := hF
      exact hK.out _ _ ⟨fun zj => if zj = 7 then true else zB zj, fun zd => if zd = 12 then .pointer (some ⟨w.heap.size + 1, 1, none⟩) else zS zd, R, rfl, by kernel_rfl, ⟨F0, F1, F2, F3, F4, F5, F6, fun _ => rfl, F8, F9, F10, F11, F12⟩, hW⟩
    refine StepsI.cons rfl ?_ ?_
    · rintro L zA v ⟨zB, zS, R, rfl, rfl, hF, hW⟩ hL hm K hK
      have hb8 : zB 8 = false := by simpa using hL
      have hb7 : zB 7 = true := by cases e : zB 7 with | false => (exfalso; revert hm; simp [metB, Region.binds, e]) | true => rfl
      have e7 := hF.2.2.2.2.2.2.2.1 hb7
      clear hL hm
      simp only [puts, Act.put, List.setIfInBounds_toArray, List.set_cons_zero, List.set_cons_succ]
      simp only [e7]
      obtain ⟨⟨q0, q1, q2, q3⟩, p0, p1, p2, p3⟩ := hBox _ hW.1.1
      go_simp
      obtain ⟨F0, F1, F2, F3, F4, F5, F6, _, _, F9, F10, F11, F12⟩ := hF
      exact hK.out _ _ ⟨fun zj => if zj = 7 then true else if zj = 8 then true else zB zj, fun zd => if zd = 13 then .int .i64 d else if zd = 12 then .pointer (some ⟨w.heap.size + 1, 1, none⟩) else zS zd, R, by simp [hb7], by kernel_rfl, ⟨F0, F1, F2, F3, F4, F5, F6, fun _ => rfl, fun _ => rfl, F9, F10, F11, F12⟩, hW⟩
    refine StepsI.cons rfl ?_ ?_
    · rintro L zA v ⟨zB, zS, R, rfl, rfl, hF, hW⟩ hL hm K hK
      have hb9 : zB 9 = false := by simpa using hL
      have hb6 : zB 6 = true := by cases e : zB 6 with | false => (exfalso; revert hm; simp [metB, Region.binds, e]) | true => rfl
      have hb8 : zB 8 = true := by cases e : zB 8 with | false => (exfalso; revert hm; simp [metB, Region.binds, e]) | true => rfl
      have e6 := hF.2.2.2.2.2.2.1 hb6
      have e8 := hF.2.2.2.2.2.2.2.2.1 hb8
      clear hL hm
      simp only [puts, Act.put, List.setIfInBounds_toArray, List.set_cons_zero, List.set_cons_succ]
      simp only [e6, e8]
      go_simp
      refine (compare_any _ _ _).mono ?_
      rintro e v2 ⟨rfl, rfl⟩
      go_wp2_with fail
      obtain ⟨F0, F1, F2, F3, F4, F5, _, F7, _, _, F10, F11, F12⟩ := hF
      exact hK.out _ _ ⟨fun zj => if zj = 8 then true else if zj = 6 then true else if zj = 9 then true else zB zj, fun zd => if zd = 14 then .int .i64 (cmpI b d) else if zd = 13 then .int .i64 d else if zd = 11 then .int .i64 b else zS zd, R, by simp [hb6, hb8], by kernel_rfl, ⟨F0, F1, F2, F3, F4, F5, fun _ => rfl, F7, fun _ => rfl, fun _ => rfl, F10, F11, F12⟩, hW⟩
    refine StepsI.cons rfl ?_ ?_
    · rintro L zA v ⟨zB, zS, R, rfl, rfl, hF, hW⟩ hL hm K hK
      have hb10 : zB 10 = false := by simpa using hL
      have hb4 : zB 4 = true := by cases e : zB 4 with | false => (exfalso; revert hm; simp [metB, Region.binds, e]) | true => rfl
      have hb9 : zB 9 = true := by cases e : zB 9 with | false => (exfalso; revert hm; simp [metB, Region.binds, e]) | true => rfl
      have e4 := hF.2.2.2.2.1 hb4
      have e9 := hF.2.2.2.2.2.2.2.2.2.1 hb9
      clear hL hm
      rw [hb10] at hW
      simp only [puts, Act.put, List.setIfInBounds_toArray, List.set_cons_zero, List.set_cons_succ]
      simp only [e4, e9]
      go_simp
      obtain ⟨F0, F1, F2, F3, _, F5, F6, F7, F8, _, _, F11, F12⟩ := hF
      exact hK.out _ _ ⟨fun zj => if zj = 9 then true else if zj = 4 then true else if zj = 10 then true else zB zj, fun zd => if zd = 15 then .slice (some ⟨v.heap.size, 0, none⟩) 2 2 else if zd = 14 then .int .i64 (cmpI b d) else if zd = 9 then .int .i64 (cmpI a c) else zS zd, v.heap.size, by simp [hb4, hb9], by kernel_rfl, ⟨F0, F1, F2, F3, fun _ => rfl, F5, F6, F7, F8, fun _ => rfl, fun _ => rfl, F11, F12⟩, ⟨⟨below_step hW.1.1 ((Below.refl _ _).alloc (Nat.le_refl _) _), hW.1.2⟩, fun _ => ⟨by simp [go_sem], by simp [go_sem]⟩⟩⟩
    refine StepsI.cons rfl ?_ ?_
    · rintro L zA v ⟨zB, zS, R, rfl, rfl, hF, hW⟩ hL hm K hK
      have hb11 : zB 11 = false := by simpa using hL
      have hb10 : zB 10 = true := by cases e : zB 10 with | false => (exfalso; revert hm; simp [metB, Region.binds, e]) | true => rfl
      have e10 := hF.2.2.2.2.2.2.2.2.2.2.1 hb10
      clear hL hm
      rw [hb10] at hW
      simp only [puts, Act.put, List.setIfInBounds_toArray, List.set_cons_zero, List.set_cons_succ]
      simp only [e10]
      go_simp
      refine (or2_any _ _ R _ _ (hW.2 (by trivial)).1 (hW.2 (by trivial)).2).mono ?_
      rintro e v2 ⟨rfl, rfl⟩
      go_wp2_with fail
      obtain ⟨F0, F1, F2, F3, F4, F5, F6, F7, F8, F9, _, _, F12⟩ := hF
      exact hK.out _ _ ⟨fun zj => if zj = 10 then true else if zj = 11 then true else zB zj, fun zd => if zd = 16 then .int .i64 (orI (cmpI a c) (cmpI b d)) else if zd = 15 then .slice (some ⟨R, 0, none⟩) 2 2 else zS zd, R, by simp [hb10], by kernel_rfl, ⟨F0, F1, F2, F3, F4, F5, F6, F7, F8, F9, fun _ => rfl, fun _ => rfl, F12⟩, ⟨hW.1, fun _ => hW.2 (by trivial)⟩⟩
    refine StepsI.cons rfl ?_ ?_
    · rintro L zA v ⟨zB, zS, R, rfl, rfl, hF, hW⟩ hL hm K hK
      have hb12 : zB 12 = false := by simpa using hL
      have hb11 : zB 11 = true := by cases e : zB 11 with | false => (exfalso; revert hm; simp [metB, Region.binds, e]) | true => rfl
      have e11 := hF.2.2.2.2.2.2.2.2.2.2.2.1 hb11
      clear hL hm
      simp only [puts, Act.put, List.setIfInBounds_toArray, List.set_cons_zero, List.set_cons_succ]
      simp only [e11]
      go_simp
      obtain ⟨F0, F1, F2, F3, F4, F5, F6, F7, F8, F9, F10, _, _⟩ := hF
      exact hK.out _ _ ⟨fun zj => if zj = 11 then true else if zj = 12 then true else zB zj, fun zd => if zd = 4 then .int .i64 (orI (cmpI a c) (cmpI b d)) else if zd = 16 then .int .i64 (orI (cmpI a c) (cmpI b d)) else zS zd, R, by simp [hb11], by kernel_rfl, ⟨F0, F1, F2, F3, F4, F5, F6, F7, F8, F9, F10, fun _ => rfl, fun _ => rfl⟩, hW⟩
    exact StepsI.nil (by kernel_rfl)
  · rintro L zA v ⟨zB, zS, R, rfl, rfl, hF, hW⟩ hr
    have hu := all_up (by kernel_rfl) (N := 13) (by kernel_rfl) hr
    have hb0 : zB 0 = true := by simpa using hu 0 (by decide)
    have hb1 : zB 1 = true := by simpa using hu 1 (by decide)
    have hb2 : zB 2 = true := by simpa using hu 2 (by decide)
    have hb3 : zB 3 = true := by simpa using hu 3 (by decide)
    have hb4 : zB 4 = true := by simpa using hu 4 (by decide)
    have hb5 : zB 5 = true := by simpa using hu 5 (by decide)
    have hb6 : zB 6 = true := by simpa using hu 6 (by decide)
    have hb7 : zB 7 = true := by simpa using hu 7 (by decide)
    have hb8 : zB 8 = true := by simpa using hu 8 (by decide)
    have hb9 : zB 9 = true := by simpa using hu 9 (by decide)
    have hb10 : zB 10 = true := by simpa using hu 10 (by decide)
    have hb11 : zB 11 = true := by simpa using hu 11 (by decide)
    have hb12 : zB 12 = true := by simpa using hu 12 (by decide)
    have e0 := hF.1 hb0
    have e1 := hF.2.1 hb1
    have e2 := hF.2.2.1 hb2
    have e3 := hF.2.2.2.1 hb3
    have e4 := hF.2.2.2.2.1 hb4
    have e5 := hF.2.2.2.2.2.1 hb5
    have e6 := hF.2.2.2.2.2.2.1 hb6
    have e7 := hF.2.2.2.2.2.2.2.1 hb7
    have e8 := hF.2.2.2.2.2.2.2.2.1 hb8
    have e9 := hF.2.2.2.2.2.2.2.2.2.1 hb9
    have e10 := hF.2.2.2.2.2.2.2.2.2.2.1 hb10
    have e11 := hF.2.2.2.2.2.2.2.2.2.2.2.1 hb11
    have e12 := hF.2.2.2.2.2.2.2.2.2.2.2.2 hb12
    rw [hb10] at hW
    clear hu hr hF
    simp only [puts, Act.put, List.setIfInBounds_toArray, List.set_cons_zero, List.set_cons_succ]
    simp only [e0, e1, e2, e3, e4, e5, e6, e7, e8, e9, e10, e11, e12]
    clear e0 e1 e2 e3 e4 e5 e6 e7 e8 e9 e10 e11 e12
    clear hb0 hb1 hb2 hb3 hb4 hb5 hb6 hb7 hb8 hb9 hb10 hb11 hb12
    clear zB zS
    have HB := mkHid (And.intro (below_step B0.out hW.1.1) (Nat.le_trans D0.out hW.1.2))
    clear hW
    go_wp2
    go_ret
    exact ⟨rfl, HB.out⟩
set_option maxHeartbeats 800000 in
theorem sSymLess_any (a b c d : Int) (w : World) : Calls Tryz.prog 51 #[.agg #[.int .i64 a, .int .i64 b], .agg #[.int .i64 c, .int .i64 d]] w fun e w' => e = .returned (.bool (lessB a b c d)) ∧ Below w.heap.size w w' := by
  have B0 := mkHid (((Below.refl w.heap.size w).alloc (Nat.le_refl _) (.cells #[.int .i64 a, .int .i64 b] 39)).alloc (by simp) (.cells #[.int .i64 c, .int .i64 d] 39))
  unfold lessB
  by_cases h1 : a < c
  · rw [decide_eq_true (.inl h1)]
    go_enter Tryz.func51, Tryz.ntmps51
    go_wp2
    go_ret
    exact ⟨rfl, B0.out⟩
  · by_cases h2 : a = c
    · subst h2
      have e : Hid (decide (a < a ∨ a = a ∧ b < d) = decide (b < d)) := mkHid (by rw [decide_eq_decide]; omega)
      rw [e.out]
      have hs : (a == a) = true := by simp
      have hl : ¬ a < a := by omega
      go_enter Tryz.func51, Tryz.ntmps51
      go_wp2
      go_ret
      exact ⟨rfl, B0.out⟩
    · rw [decide_eq_false (by omega)]
      have hs : (a == c) = false := by simp [h2]
      go_enter Tryz.func51, Tryz.ntmps51
      go_wp2
      go_ret
      exact ⟨rfl, B0.out⟩
set_option maxHeartbeats 800000 in
theorem sSymOk_any (n v c : Int) (w : World) : Calls Tryz.prog 50 #[.int .i64 n, .agg #[.int .i64 v, .int .i64 c]] w fun e w' => e = .returned (.bool (symOkB n v c)) ∧ Below w.heap.size w w' := by
  have B0 := mkHid ((Below.refl w.heap.size w).alloc (Nat.le_refl _) (.cells #[.int .i64 v, .int .i64 c] 39))
  unfold symOkB
  cases h1 : btw n 1 13
  · go_enter Tryz.func50, Tryz.ntmps50
    go_wp2_with (first | (go_at_call 105; refine (between_any _ _ _ _).mono ?_; rintro e w' ⟨rfl, rfl⟩))
    go_ret
    exact ⟨rfl, B0.out⟩
  · have hn : 1 ≤ n ∧ n ≤ 13 := of_decide_eq_true h1
    obtain ⟨k, hk⟩ : ∃ k, n - 1 = k := ⟨_, rfl⟩
    have hw : IntKind.i64.wrap (n - 1) = k := by rw [← hk]; exact IntWalk.i64_in _ (by omega)
    rw [hk]
    clear hk hn
    cases h2 : btw v 0 k
    · go_enter Tryz.func50, Tryz.ntmps50
      go_wp2_with (first | (go_at_call 105; refine (between_any _ _ _ _).mono ?_; rintro e w' ⟨rfl, rfl⟩))
      go_ret
      exact ⟨rfl, B0.out⟩
    · go_enter Tryz.func50, Tryz.ntmps50
      go_wp2_with (first | (go_at_call 105; refine (between_any _ _ _ _).mono ?_; rintro e w' ⟨rfl, rfl⟩))
      go_ret
      exact ⟨rfl, B0.out⟩
set_option maxHeartbeats 800000 in
theorem iSymOk_any (n v c : Int) (w : World) : Calls Tryz.prog 130 #[.int .i64 n, .agg #[.int .i64 v, .int .i64 c]] w fun e w' => e = .returned (.bool (symOkB n v c)) ∧ Below w.heap.size w w' := by
  have B0 := mkHid ((Below.refl w.heap.size w).alloc (Nat.le_refl _) (.cells #[.int .i64 v, .int .i64 c] 39))
  unfold symOkB
  cases h1 : btw n 1 13
  · go_enter Tryz.func130, Tryz.ntmps130
    go_wp2_with (first | (go_at_call 90; refine (isBetween_any _ _ _ _).mono ?_; rintro e w' ⟨rfl, rfl⟩))
    go_ret
    exact ⟨rfl, B0.out⟩
  · have hn : 1 ≤ n ∧ n ≤ 13 := of_decide_eq_true h1
    obtain ⟨k, hk⟩ : ∃ k, n - 1 = k := ⟨_, rfl⟩
    have hw : IntKind.i64.wrap (n - 1) = k := by rw [← hk]; exact IntWalk.i64_in _ (by omega)
    rw [hk]
    clear hk hn
    cases h2 : btw v 0 k
    · go_enter Tryz.func130, Tryz.ntmps130
      go_wp2_with (first | (go_at_call 90; refine (isBetween_any _ _ _ _).mono ?_; rintro e w' ⟨rfl, rfl⟩))
      go_ret
      exact ⟨rfl, B0.out⟩
    · go_enter Tryz.func130, Tryz.ntmps130
      go_wp2_with (first | (go_at_call 90; refine (isBetween_any _ _ _ _).mono ?_; rintro e w' ⟨rfl, rfl⟩))
      go_ret
      exact ⟨rfl, B0.out⟩
end Go.Proofs.YtbfmljogfljhdaaGreat
namespace Go.Proofs.YtbfmljogfljhdaaGreat
open Go.RowKit

/-- A kind of element: its cells. -/
structure El (α : Type) where
  enc : α → List Value
  k : Nat
  pos : 0 < k
  len : ∀ x, (enc x).length = k
variable {α : Type}
def El.flat (E : El α) (l : List α) : List Value := l.flatMap E.enc
theorem El.flat_app (E : El α) (a b : List α) : E.flat (a ++ b) = E.flat a ++ E.flat b := by simp [El.flat]
theorem El.flat_cons (E : El α) (x : α) (l : List α) : E.flat (x :: l) = E.enc x ++ E.flat l := by simp [El.flat]
theorem El.flat_len (E : El α) (l : List α) : (E.flat l).length = l.length * E.k := by
  induction l with
  | nil => simp [El.flat]
  | cons x l ih => rw [El.flat_cons, List.length_append, E.len, ih, List.length_cons, Nat.add_mul]; omega
theorem split_at {l : List α} {i : Nat} {x : α} (h : l[i]? = some x) : l = l.take i ++ x :: l.drop (i + 1) ∧ (l.take i).length = i := by
  obtain ⟨hi, rfl⟩ := List.getElem?_eq_some_iff.1 h
  exact ⟨by rw [← List.drop_eq_getElem_cons hi, List.take_append_drop], by simp; omega⟩
theorem El.flat_get (E : El α) {l : List α} {i : Nat} {x : α} (h : l[i]? = some x) {j : Nat} (hj : j < E.k) : (E.flat l)[i * E.k + j]? = (E.enc x)[j]? := by
  obtain ⟨e, hl⟩ := split_at h
  have e2 : E.flat l = E.flat (l.take i) ++ (E.enc x ++ E.flat (l.drop (i + 1))) := by
    conv => lhs; rw [e]
    rw [El.flat_app, El.flat_cons]
  have e3 : (E.flat (l.take i)).length = i * E.k := by rw [El.flat_len, hl]
  rw [e2, List.getElem?_append_right (by omega), e3, show i * E.k + j - i * E.k = j by omega, List.getElem?_append_left (by rw [E.len]; exact hj)]
theorem El.flat_take (E : El α) (l : List α) (i : Nat) : (E.flat l).take (i * E.k) = E.flat (l.take i) := by
  by_cases h : i ≤ l.length
  · have e : E.flat l = E.flat (l.take i) ++ E.flat (l.drop i) := by rw [← El.flat_app, List.take_append_drop]
    rw [e, List.take_left']
    rw [El.flat_len, List.length_take, Nat.min_eq_left h]
  · rw [List.take_of_length_le (l := l) (by omega), List.take_of_length_le]
    rw [El.flat_len]
    exact Nat.mul_le_mul_right _ (by omega)
/-- The elements lie from an address on, to be read. -/
def At (E : El α) (w : World) (a : Option Addr) (l : List α) : Prop := l = [] ∨ ∃ b o, a = some ⟨b, o, none⟩ ∧ ∀ (i : Nat) (x : α), l[i]? = some x → ∀ (j : Nat) (v : Value), (E.enc x)[j]? = some v → w.cell? ⟨b, o + i * E.k + j, none⟩ = some v
theorem At.below {E : El α} {w w' : World} {a : Option Addr} {l : List α} (h : At E w a l) (hb : Below w.heap.size w w') : At E w' a l := by
  rcases h with h | ⟨b, o, e, h⟩
  · exact .inl h
  · refine .inr ⟨b, o, e, fun i x hx j v hv => ?_⟩
    have h1 := h i x hx j v hv
    exact (hb.cell (p := ⟨b, o + i * E.k + j, none⟩) (World.block_lt_of_cell? w _ h1)).trans h1
theorem At.nil (E : El α) (w : World) (a : Option Addr) : At E w a [] := .inl rfl
theorem At.cons {E : El α} {w : World} {a : Option Addr} {l : List α} (h : At E w a l) (hn : 0 < l.length) : ∃ b o, a = some ⟨b, o, none⟩ ∧ b < w.heap.size ∧ ∀ (i : Nat) (x : α), l[i]? = some x → ∀ (j : Nat) (v : Value), (E.enc x)[j]? = some v → w.cell? ⟨b, o + i * E.k + j, none⟩ = some v := by
  rcases h with rfl | ⟨b, o, e, h⟩
  · simp at hn
  · refine ⟨b, o, e, ?_, h⟩
    obtain ⟨x0, hx⟩ : ∃ x, l[0]? = some x := ⟨_, List.getElem?_eq_getElem hn⟩
    have hp := E.pos
    have hq := E.len x0
    obtain ⟨v0, hj⟩ : ∃ v, (E.enc x0)[0]? = some v := ⟨_, List.getElem?_eq_getElem (by omega)⟩
    exact World.block_lt_of_cell? w _ (h 0 _ hx 0 _ hj)
/-- A slice of our own that holds these elements. -/
def Own (E : El α) (T : TypeId) (w : World) (base : Nat) (v : Value) (l : List α) : Prop := w.ownsRow base T E.k v l.length (E.flat l)
section
variable {E : El α} {T : TypeId} {w w' : World} {base base' : Nat} {v : Value} {l : List α}
theorem owns_below {w w' : World} {base e size n : Nat} {v : Value} {xs : List Value} (h : w.ownsRow base e size v n xs) (hb : Below w.heap.size w w') : w'.ownsRow base e size v n xs :=
  h.kept (row := none) ⟨hb.os, hb.tape, hb.output, hb.size, fun k hk _ => hb.block k hk⟩ (by cases v.ownBlock <;> simp)
theorem Own.below (h : Own E T w base v l) (hb : Below w.heap.size w w') : Own E T w' base v l := owns_below h hb
theorem Own.mono (h : Own E T w base v l) (hb : base' ≤ base) : Own E T w base' v l := World.ownsRow.mono h hb
theorem Own.form (h : Own E T w base v l) : ∃ ao cap, v = .slice ao l.length cap := by
  rcases h.2 with ⟨rfl, h0⟩ | ⟨g, cap, cur, rfl, _⟩
  · exact ⟨none, 0, by rw [h0]⟩
  · exact ⟨_, _, rfl⟩
theorem Own.form2 (h : Own E T w base v l) : ∃ ao cap, v = .slice ao l.length cap ∧ l.length ≤ cap ∧ cap ≤ maxLen := by
  rcases h.2 with ⟨rfl, h0⟩ | ⟨g, cap, cur, rfl, _, _, h1, h2, _⟩
  · exact ⟨none, 0, by rw [h0], by omega, by unfold maxLen; omega⟩
  · exact ⟨_, _, rfl, h1, h2⟩
theorem Own.nil (E : El α) (T : TypeId) (w : World) (base : Nat) : Own E T w base (.slice none 0 0) [] := ⟨by simp [El.flat], .inl ⟨rfl, rfl⟩⟩
theorem Own.lt (h : Own E T w base v l) {q : Nat} (hq : v.ownBlock = some q) : base ≤ q ∧ q < w.heap.size := World.ownsRow.lt h q hq
theorem Own.block (h : Own E T w base v l) {q : Nat} (hq : v.ownBlock = some q) : ∃ cur, w.heap[q]? = some (.cells cur T (0, 0)) := by
  rcases h.2 with ⟨rfl, _⟩ | ⟨g, cap, cur, rfl, _, hg, _⟩
  · simp [Value.ownBlock] at hq
  · simp [Value.ownBlock] at hq
    subst hq
    exact ⟨cur, hg⟩
theorem Own.keptBy (h : Own E T w base v l) {row : Option Nat} (hg : w.grownBy w' row) (hr : ∀ q, v.ownBlock = some q → row ≠ some q) : Own E T w' base v l := by
  refine World.ownsRow.kept h hg ?_
  rcases h.2 with ⟨rfl, _⟩ | ⟨g, cap, cur, rfl, _, _, _⟩
  · exact .inl rfl
  · exact .inr fun e => hr g rfl (by rw [← e]; rfl)
theorem Own.at {ao : Option Addr} {n cap : Nat} (h : Own E T w base (.slice ao n cap) l) : At E w ao l := by
  rcases h.2 with ⟨e, h0⟩ | ⟨g, cap', cur, e, _⟩
  · exact .inl (List.length_eq_zero_iff.1 h0)
  · simp at e
    obtain ⟨rfl, rfl, rfl⟩ := e
    refine .inr ⟨g, 0, rfl, fun i x hx j v hv => ?_⟩
    have hi := (List.getElem?_eq_some_iff.1 hx).1
    have hj : j < E.k := by have := (List.getElem?_eq_some_iff.1 hv).1; rwa [E.len] at this
    have hlt : i * E.k + j < l.length * E.k := by
      have : (i + 1) * E.k ≤ l.length * E.k := Nat.mul_le_mul_right _ hi
      rw [Nat.add_mul] at this; omega
    rw [Nat.zero_add, World.ownsRow.cellAt h _ hlt, E.flat_get hx hj, hv]
end
theorem grown_trans {a b c : World} {r : Option Nat} (h : a.grownBy b r) (k : b.grownBy c r) : a.grownBy c r :=
  ⟨k.os.trans h.os, k.tape.trans h.tape, k.output.trans h.output, Nat.le_trans h.size k.size, fun i hi hne => (k.block i (Nat.lt_of_lt_of_le hi h.size) hne).trans (h.block i hi hne)⟩
theorem grown_below {a b : World} {r : Option Nat} (h : Below a.heap.size a b) : a.grownBy b r := ⟨h.os, h.tape, h.output, h.size, fun i hi _ => h.block i hi⟩

def eY : El Y := ⟨fun p => [.int .i64 p.1, .int .i64 p.2], 2, by omega, fun _ => rfl⟩
def eV : El VV := ⟨fun p => [.int .i64 p.1, .int .i64 p.2.1, .bool p.2.2], 3, by omega, fun _ => rfl⟩
def eB : El Bool := ⟨fun p => [.bool p], 1, by omega, fun _ => rfl⟩
/-- What a read of an element wants. -/
theorem get_y {w : World} {b o : Nat} {l : List Y} (h : ∀ (i : Nat) (x : Y), l[i]? = some x → ∀ (j : Nat) (v : Value), (eY.enc x)[j]? = some v → w.cell? ⟨b, o + i * eY.k + j, none⟩ = some v) {i : Nat} {x : Y} (hx : l[i]? = some x) :
    w.cell? ⟨b, o + i * 2, none⟩ = some (.int .i64 x.1) ∧ w.cell? ⟨b, o + i * 2 + 1, none⟩ = some (.int .i64 x.2) := ⟨h i x hx 0 _ rfl, h i x hx 1 _ rfl⟩
theorem get_v {w : World} {b o : Nat} {l : List VV} (h : ∀ (i : Nat) (x : VV), l[i]? = some x → ∀ (j : Nat) (v : Value), (eV.enc x)[j]? = some v → w.cell? ⟨b, o + i * eV.k + j, none⟩ = some v) {i : Nat} {x : VV} (hx : l[i]? = some x) :
    w.cell? ⟨b, o + i * 3, none⟩ = some (.int .i64 x.1) ∧ w.cell? ⟨b, o + i * 3 + 1, none⟩ = some (.int .i64 x.2.1) ∧ w.cell? ⟨b, o + i * 3 + 2, none⟩ = some (.bool x.2.2) := ⟨h i x hx 0 _ rfl, h i x hx 1 _ rfl, h i x hx 2 _ rfl⟩
theorem get_b {w : World} {b o : Nat} {l : List Bool} (h : ∀ (i : Nat) (x : Bool), l[i]? = some x → ∀ (j : Nat) (v : Value), (eB.enc x)[j]? = some v → w.cell? ⟨b, o + i * eB.k + j, none⟩ = some v) {i : Nat} {x : Bool} (hx : l[i]? = some x) :
    w.cell? ⟨b, o + i, none⟩ = some (.bool x) := by have := h i x hx 0 _ rfl; simpa [eB] using this
/-- A step of filling a row. -/
theorem flat_upto {E : El α} {l : List α} {xs : List Value} (hl : xs.length = l.length * E.k) (h : xs.take (l.length * E.k) = E.flat (l.take l.length)) : xs = E.flat l := by
  rw [List.take_of_length_le (by omega)] at h
  rw [h, List.take_length]
theorem two_parts {l : List Value} {n m : Nat} (h : l.length = m) (hn : n + 2 ≤ m) : ∃ p a b r, l = p ++ a :: b :: r ∧ p.length = n := by
  have h1 : n < l.length := by omega
  have h2 : n + 1 < l.length := by omega
  refine ⟨l.take n, l[n], l[n + 1], l.drop (n + 1 + 1), ?_, by simp; omega⟩
  rw [← List.drop_eq_getElem_cons h2, ← List.drop_eq_getElem_cons h1, List.take_append_drop]
theorem three_parts {l : List Value} {n m : Nat} (h : l.length = m) (hn : n + 3 ≤ m) : ∃ p a b c r, l = p ++ a :: b :: c :: r ∧ p.length = n := by
  have h1 : n < l.length := by omega
  have h2 : n + 1 < l.length := by omega
  have h3 : n + 1 + 1 < l.length := by omega
  refine ⟨l.take n, l[n], l[n + 1], l[n + 1 + 1], l.drop (n + 1 + 1 + 1), ?_, by simp; omega⟩
  rw [← List.drop_eq_getElem_cons h3, ← List.drop_eq_getElem_cons h2, ← List.drop_eq_getElem_cons h1, List.take_append_drop]
theorem step_y {l : List Y} {k : Nat} {x : Y} (hx : l[k]? = some x) {xs : List Value} (hlen : xs.length = l.length * 2) (h : xs.take (k * 2) = eY.flat (l.take k)) :
    ((xs.set (k * 2) (.int .i64 x.1)).set (k * 2 + 1) (.int .i64 x.2)).take ((k + 1) * 2) = eY.flat (l.take (k + 1)) := by
  obtain ⟨hk, hx'⟩ := List.getElem?_eq_some_iff.1 hx
  obtain ⟨p, a, b, r, rfl, hp⟩ := two_parts (n := k * 2) hlen (by omega)
  rw [List.take_left' hp] at h
  rw [List.take_succ_eq_append_getElem hk, El.flat_app, ← h, hx', show (k + 1) * 2 = p.length + 2 by omega]
  have s1 : (p ++ a :: b :: r).set (k * 2) (.int .i64 x.1) = p ++ .int .i64 x.1 :: b :: r := by rw [← hp]; simp
  have s2 : (p ++ .int .i64 x.1 :: b :: r).set (k * 2 + 1) (.int .i64 x.2) = p ++ .int .i64 x.1 :: .int .i64 x.2 :: r := by rw [← hp]; simp
  rw [s1, s2, List.take_length_add_append]
  simp [El.flat, eY]
theorem step_v {l : List VV} {k : Nat} {x : VV} (hx : l[k]? = some x) {xs : List Value} (hlen : xs.length = l.length * 3) (h : xs.take (k * 3) = eV.flat (l.take k)) :
    (((xs.set (k * 3) (.int .i64 x.1)).set (k * 3 + 1) (.int .i64 x.2.1)).set (k * 3 + 1 + 1) (.bool x.2.2)).take ((k + 1) * 3) = eV.flat (l.take (k + 1)) := by
  obtain ⟨hk, hx'⟩ := List.getElem?_eq_some_iff.1 hx
  obtain ⟨p, a, b, c, r, rfl, hp⟩ := three_parts (n := k * 3) hlen (by omega)
  rw [List.take_left' hp] at h
  rw [List.take_succ_eq_append_getElem hk, El.flat_app, ← h, hx', show (k + 1) * 3 = p.length + 3 by omega]
  have s1 : (p ++ a :: b :: c :: r).set (k * 3) (.int .i64 x.1) = p ++ .int .i64 x.1 :: b :: c :: r := by rw [← hp]; simp
  have s2 : (p ++ .int .i64 x.1 :: b :: c :: r).set (k * 3 + 1) (.int .i64 x.2.1) = p ++ .int .i64 x.1 :: .int .i64 x.2.1 :: c :: r := by rw [← hp]; simp
  have s3 : (p ++ .int .i64 x.1 :: .int .i64 x.2.1 :: c :: r).set (k * 3 + 1 + 1) (.bool x.2.2) = p ++ .int .i64 x.1 :: .int .i64 x.2.1 :: .bool x.2.2 :: r := by
    rw [← hp, List.set_append_right _ _ (by omega), show p.length + 1 + 1 - p.length = 2 by omega]; rfl
  rw [s1, s2, s3, List.take_length_add_append]
  simp [El.flat, eV]
theorem step_b {l : List Bool} {k : Nat} {x : Bool} (hx : l[k]? = some x) {xs : List Value} (hlen : xs.length = l.length * 1) (h : xs.take (k * 1) = eB.flat (l.take k)) :
    (xs.set k (.bool x)).take ((k + 1) * 1) = eB.flat (l.take (k + 1)) := by
  obtain ⟨hk, hx'⟩ := List.getElem?_eq_some_iff.1 hx
  rw [Nat.mul_one] at *
  rw [List.take_succ_eq_append_getElem hk, El.flat_app, ← h, hx', List.take_succ_eq_append_getElem (by simp; omega)]
  simp [El.flat, eB, List.take_set_of_le]
end Go.Proofs.YtbfmljogfljhdaaGreat
