/-
  VALS: taken over, compared, ok, what they have; no cell.
  A REGION THAT DRAWS ITS ORDER, BY AN INVARIANT: one obligation for each operation, whatever has come up before it.
  PURE: terms in order, sets of terms, segments as data.
-/
import Derived.Test.YtihpajiololfoaaGreatCc00
import Derived.Deep.QuietTactic
import Derived.Deep.RegionHeld3
namespace Go.Proofs.YtihpajiololfoaaGreat
open Go.RowKit

set_option maxHeartbeats 400000 in
theorem toVal_any (a b : Int) (s : Bool) (w : World) : Calls Tryz.prog 85 #[.agg #[.int .i64 a, .int .i64 b, .bool s]] w fun e w' => e = .returned (.agg #[.int .i64 a, .int .i64 b, .bool s]) ∧ Below w.heap.size w w' := by
 go_enter Tryz.func85, Tryz.ntmps85
 go_wp2_with (go_at_call 26; refine (toRange_any _ _ _).mono ?_; rintro e w' ⟨rfl, hb⟩; (try rw [below_drew] at hb); obtain ⟨hc, hf, hm, hs⟩ := bcell4 hb; have hz0 : w.heap.size < w'.heap.size := (by have := hb.size; (try simp at this); omega); have hl0 := Nat.le_of_lt hz0; have hz1 : w.heap.size + 1 < w'.heap.size := (by have := hb.size; (try simp at this); omega); have hl1 := Nat.le_of_lt hz1; have hz2 : w.heap.size + 1 + 1 < w'.heap.size := (by have := hb.size; (try simp at this); omega); have hl2 := Nat.le_of_lt hz2)
 exact bodyPost_ret (v := .agg #[.int .i64 a, .int .i64 b, .bool s]) (by simp [results, Tryz.results85, go_sem, hc]) rfl ⟨rfl, (by repeat (first | with_reducible exact Below.refl _ _ | (with_reducible refine bl_set2 ?_ ?_ _; (first | (simp; done) | (simp [*]; done) | (simp [*] <;> omega))) | with_reducible refine bl_drew ?_ | with_reducible refine bl_alloc ?_ _ | with_reducible refine below_step ?_ (by assumption) | with_reducible assumption))⟩
set_option maxHeartbeats 400000 in
theorem eqVal_same (a b : Int) (s : Bool) (w : World) : Calls Tryz.prog 24 #[.agg #[.int .i64 a, .int .i64 b, .bool s], .agg #[.int .i64 a, .int .i64 b, .bool s]] w fun e w' => e = .returned (.bool true) ∧ Below w.heap.size w w' := by
 have hs : (s != s) = false := by simp
 go_enter Tryz.func24, Tryz.ntmps24
 go_wp2_with (go_at_call 64; refine (eqRange_same _ _ _).mono ?_; rintro e w' ⟨rfl, hb⟩; (try rw [below_drew] at hb); obtain ⟨hc, hf, hm, hs⟩ := bcell4 hb; have hz0 : w.heap.size < w'.heap.size := (by have := hb.size; (try simp at this); omega); have hl0 := Nat.le_of_lt hz0; have hz1 : w.heap.size + 1 < w'.heap.size := (by have := hb.size; (try simp at this); omega); have hl1 := Nat.le_of_lt hz1)
 go_ret
 exact ⟨rfl, (by repeat (first | with_reducible exact Below.refl _ _ | (with_reducible refine bl_set2 ?_ ?_ _; (first | (simp; done) | (simp [*]; done) | (simp [*] <;> omega))) | with_reducible refine bl_drew ?_ | with_reducible refine bl_alloc ?_ _ | with_reducible refine below_step ?_ (by assumption) | with_reducible assumption))⟩
set_option maxHeartbeats 400000 in
theorem sVok_any (a b : Int) (s : Bool) (w : World) : Calls Tryz.prog 80 #[.agg #[.int .i64 a, .int .i64 b, .bool s]] w fun e w' => e = .returned (.bool (okB a b)) ∧ Below w.heap.size w w' := by
 go_enter Tryz.func80, Tryz.ntmps80
 go_wp2_with (go_at_call 105; refine (sOk_any _ _ _).mono ?_; rintro e w' ⟨rfl, hb⟩; (try rw [below_drew] at hb); obtain ⟨hc, hf, hm, hs⟩ := bcell4 hb; have hz0 : w.heap.size < w'.heap.size := (by have := hb.size; (try simp at this); omega); have hl0 := Nat.le_of_lt hz0)
 go_ret
 exact ⟨rfl, (by repeat (first | with_reducible exact Below.refl _ _ | (with_reducible refine bl_set2 ?_ ?_ _; (first | (simp; done) | (simp [*]; done) | (simp [*] <;> omega))) | with_reducible refine bl_drew ?_ | with_reducible refine bl_alloc ?_ _ | with_reducible refine below_step ?_ (by assumption) | with_reducible assumption))⟩
set_option maxHeartbeats 400000 in
theorem iVok_any (a b : Int) (s : Bool) (w : World) : Calls Tryz.prog 137 #[.agg #[.int .i64 a, .int .i64 b, .bool s]] w fun e w' => e = .returned (.bool (okB a b)) ∧ Below w.heap.size w w' := by
 go_enter Tryz.func137, Tryz.ntmps137
 go_wp2_with (go_at_call 141; refine (iOk_any _ _ _).mono ?_; rintro e w' ⟨rfl, hb⟩; (try rw [below_drew] at hb); obtain ⟨hc, hf, hm, hs⟩ := bcell4 hb; have hz0 : w.heap.size < w'.heap.size := (by have := hb.size; (try simp at this); omega); have hl0 := Nat.le_of_lt hz0)
 go_ret
 exact ⟨rfl, (by repeat (first | with_reducible exact Below.refl _ _ | (with_reducible refine bl_set2 ?_ ?_ _; (first | (simp; done) | (simp [*]; done) | (simp [*] <;> omega))) | with_reducible refine bl_drew ?_ | with_reducible refine bl_alloc ?_ _ | with_reducible refine below_step ?_ (by assumption) | with_reducible assumption))⟩
set_option maxHeartbeats 400000 in
theorem sVnone_any (w : World) : Calls Tryz.prog 60 #[] w fun e w' => e = .returned (.agg #[.int .i64 1, .int .i64 0, .bool true]) ∧ Below w.heap.size w w' := by
 go_enter Tryz.func60, Tryz.ntmps60
 go_wp2_with (go_at_call 101; refine (sNone_any _).mono ?_; rintro e w' ⟨rfl, hb⟩; (try rw [below_drew] at hb); obtain ⟨hc, hf, hm, hs⟩ := bcell4 hb; have hz0 : w.heap.size < w'.heap.size := (by have := hb.size; (try simp at this); omega); have hl0 := Nat.le_of_lt hz0)
 exact bodyPost_ret (v := .agg #[.int .i64 1, .int .i64 0, .bool true]) (by simp [results, Tryz.results60, go_sem, *]) rfl ⟨rfl, (by repeat (first | with_reducible exact Below.refl _ _ | (with_reducible refine bl_set2 ?_ ?_ _; (first | (simp; done) | (simp [*]; done) | (simp [*] <;> omega))) | with_reducible refine bl_drew ?_ | with_reducible refine bl_alloc ?_ _ | with_reducible refine below_step ?_ (by assumption) | with_reducible assumption))⟩
end Go.Proofs.YtihpajiololfoaaGreat
namespace Go.Proofs.YtihpajiololfoaaGreat
open Go.RowKit

theorem ft {p : Prop} (e : false = true) : p := by cases e
theorem tf {p : Prop} (e : true = false) : p := by cases e
/-- What an operation waits for has come up. -/
def metB (o : Oper) (L : Array Bool) : Bool := o.after.all fun e => !Region.binds .any e || L.getD e.on false
/-- Each of the operations from number k on may come up wherever the invariant holds, and leaves it. -/
def StepsI (P : Program) (ops : Array Oper) (Q : Exit → Act → World → Prop) (I : Array Bool → Act → World → Prop) (k : Nat) : Prop :=
 ∀ i, k ≤ i → i < ops.size → ∀ L a w, I L a w → i ∈ Region.ready .any ops L → wpOp P ops Q i (fun a' w' => I (L.setIfInBounds i true) a' w') a w
theorem StepsI.nil {P : Program} {ops : Array Oper} {Q : Exit → Act → World → Prop} {I : Array Bool → Act → World → Prop} {k : Nat} (h : ops.size = k) : StepsI P ops Q I k := fun i h1 h2 => by omega
theorem StepsI.cons {P : Program} {ops : Array Oper} {Q : Exit → Act → World → Prop} {I : Array Bool → Act → World → Prop} {k : Nat} {o : Oper} (ho : ops[k]? = some o)
  (h : ∀ L a w, I L a w → L.getD k true = false → metB o L = true → ∀ K' : Act → World → Prop, Shut (∀ a w, I (L.setIfInBounds k true) a w → K' a w) → if Region.wanted o (yielded ops a.tmps) = true then Oper.wp P o a w K' Q else K' (a.put o.dst undef) w)
  (hs : StepsI P ops Q I (k + 1)) : StepsI P ops Q I k := fun i h1 h2 L a w hI hr => by
 by_cases e : i = k
 ·subst e
  obtain ⟨hL, o', ho', hall⟩ := mem_ready.1 hr
  obtain rfl : o = o' := Option.some.inj (ho.symm.trans ho')
  refine wpOp_step ho fun K' hK => h L a w hI hL ?_ K' hK
  unfold metB
  rw [Array.all_eq_true']
  intro e he
  cases hb : Region.binds .any e
  ·rfl
  ·rw [hall e he hb]; rfl
 ·exact hs i (by omega) h2 L a w hI hr
/-- How many have not come up. -/
def left (n : Nat) (L : Array Bool) : Nat := ((List.range n).filter fun i => !L.getD i true).length
theorem left_next {n i : Nat} {L : Array Bool} (hi : i < n) (h : L.getD i true = false) : left n (L.setIfInBounds i true) < left n L := by
 unfold left
 have hsub : ∀ (l : List Nat), (l.filter fun j => !(L.setIfInBounds i true).getD j true).length ≤ (l.filter fun j => !L.getD j true).length ∧ (i ∈ l → (l.filter fun j => !(L.setIfInBounds i true).getD j true).length < (l.filter fun j => !L.getD j true).length) := by
  intro l
  induction l with
  | nil => exact ⟨by simp, fun h => by cases h⟩
  | cons j l ih =>
   have hj : (L.setIfInBounds i true).getD j true = if j = i then true else L.getD j true := by
    by_cases e : j = i
    ·subst e
     rw [if_pos rfl]
     simp only [Array.getD_eq_getD_getElem?, Array.getElem?_setIfInBounds]
     by_cases hs : j < L.size
     ·simp [hs]
     ·simp [hs]
    ·rw [if_neg e]
     simp only [Array.getD_eq_getD_getElem?, Array.getElem?_setIfInBounds]
     rw [if_neg (fun h => e h.symm)]
   have h1 := ih.1
   by_cases e : j = i
   ·subst e
    rw [if_pos rfl] at hj
    rw [List.filter_cons_of_neg (by rw [hj]; decide), List.filter_cons_of_pos (by rw [h]; rfl), List.length_cons]
    exact ⟨by omega, fun _ => by omega⟩
   ·rw [if_neg e] at hj
    have h2 := ih.2
    cases hL : L.getD j true
    ·rw [List.filter_cons_of_pos (by rw [hj, hL]; rfl), List.filter_cons_of_pos (by rw [hL]; rfl), List.length_cons, List.length_cons]
     exact ⟨by omega, fun hm => by have := h2 (by rcases List.mem_cons.1 hm with h | h; exact absurd h.symm e; exact h); omega⟩
    ·rw [List.filter_cons_of_neg (by rw [hj, hL]; decide), List.filter_cons_of_neg (by rw [hL]; decide)]
     exact ⟨h1, fun hm => h2 (by rcases List.mem_cons.1 hm with h | h; exact absurd h.symm e; exact h)⟩
 exact (hsub _).2 (List.mem_range.2 hi)
theorem wpAny_inv {P : Program} {ops : Array Oper} {Q : Exit → Act → World → Prop} {I : Array Bool → Act → World → Prop} (hs : StepsI P ops Q I 0)
  (he : ∀ L a w, I L a w → Region.ready .any ops L = [] → Q .normal a w) : ∀ (fuel : Nat) L a w, left ops.size L ≤ fuel → I L a w → wpAny P .any ops Q fuel L a w
 | 0, L, a, w, hf, hI => by
  have hr : Region.ready .any ops L = [] := List.eq_nil_iff_forall_not_mem.2 fun i hi => by
   obtain ⟨hL, o, ho, _⟩ := mem_ready.1 hi
   have := left_next (Array.getElem?_eq_some_iff.1 ho).1 hL
   omega
  exact ⟨hr, he L a w hI hr⟩
 | fuel + 1, L, a, w, hf, hI => by
  refine ⟨fun h => he L a w hI h, fun i hi => ?_⟩
  obtain ⟨hL, o, ho, _⟩ := mem_ready.1 hi
  have hi' := (Array.getElem?_eq_some_iff.1 ho).1
  have hlt := left_next hi' hL
  exact wpOp_mono (fun a' w' h => wpAny_inv hs he fuel _ a' w' (by omega) h) (hs i (Nat.zero_le _) hi' L a w hI hi)
/-- THE RULE. -/
theorem wp_region_inv {P : Program} {ops : Array Oper} {Q : Exit → Act → World → Prop} {id : Nat} {a : Act} {w : World} (I : Array Bool → Act → World → Prop) (hm : P.follows .mixedOrders = true)
  (h0 : I (Array.replicate ops.size false) a w.drew) (hs : StepsI P ops Q I 0) (he : ∀ L a w, I L a w → Region.ready .any ops L = [] → Q .normal a w) : (Code.region id ops true).wp P Q a w :=
 wp_region_any hm (wpAny_inv hs he _ _ _ _ (by
  unfold left
  refine Nat.le_trans (List.length_filter_le _ _) ?_
  simp) h0)

/-- No operation waits for a later one. -/
def forthB (ops : Array Oper) : Bool := (List.range ops.size).all fun i => match ops[i]? with | some o => o.after.all fun e => !Region.binds .any e || decide (e.on < i) | none => true
/-- Where none may come up all have. -/
theorem all_up {ops : Array Oper} {L : Array Bool} (hf : forthB ops = true) {N : Nat} (hN : ops.size = N) (hr : Region.ready .any ops L = []) : ∀ i, i < N → L.getD i false = true ∨ L.size ≤ i := by
 subst hN
 intro i
 induction i using Nat.strongRecOn with
 | ind i ih =>
  intro hi
  by_cases hs : L.size ≤ i
  ·exact .inr hs
  ·refine .inl ?_
   cases hL : L.getD i false with
   | true => rfl
   | false =>
    exfalso
    have hL' : L.getD i true = false := by
     simp only [Array.getD_eq_getD_getElem?] at hL ⊢
     rw [Array.getElem?_eq_getElem (by omega)] at hL ⊢
     exact hL
    have hf' := List.all_eq_true.1 hf i (List.mem_range.2 hi)
    rw [Array.getElem?_eq_getElem hi] at hf'
    have : i ∈ Region.ready .any ops L := mem_ready.2 ⟨hL', ops[i], Array.getElem?_eq_getElem hi, fun e he hbd => by
     have h0 := Array.all_eq_true'.1 hf' e he
     rw [hbd] at h0
     have h1 := of_decide_eq_true (by simpa using h0 : decide (e.on < i) = true)
     rcases ih e.on h1 (by omega) with h | h
     ·exact h
     ·omega⟩
    rw [hr] at this
    cases this
/-- Temporaries that have been put anew. -/
def puts (a : Act) : List (Nat × Value) → Act
 | [] => a
 | (t, v) :: l => puts (a.put (some t) v) l
/-- THE RULE, the state at the region's beginning handed to the invariant. -/
theorem wp_region_inv2 {P : Program} {ops : Array Oper} {Q : Exit → Act → World → Prop} {id : Nat} {a : Act} {w : World} (I : Act → Array Bool → Act → World → Prop) (hm : P.follows .mixedOrders = true)
  (h0 : I a (Array.replicate ops.size false) a w.drew) (hs : StepsI P ops Q (I a) 0) (he : ∀ L a' v, I a L a' v → Region.ready .any ops L = [] → Q .normal a' v) : (Code.region id ops true).wp P Q a w :=
 wp_region_inv (I a) hm h0 hs he

/-- A Val in a block that may be written. -/
structure V3 (v : World) (X : Nat) (a b : Int) (s : Bool) : Prop where
 c0 : v.cell? ⟨X, 0, none⟩ = some (.int .i64 a)
 c1 : v.cell? ⟨X, 1, none⟩ = some (.int .i64 b)
 c2 : v.cell? ⟨X, 2, none⟩ = some (.bool s)
 f0 : v.frozen? ⟨X, 0, none⟩ = false
 f1 : v.frozen? ⟨X, 1, none⟩ = false
 f2 : v.frozen? ⟨X, 2, none⟩ = false
theorem V3.lt {v : World} {X : Nat} {a b : Int} {s : Bool} (h : V3 v X a b s) : X < v.heap.size := World.block_lt_of_cell? v _ h.c0
theorem V3.below {v v' : World} {X : Nat} {a b : Int} {s : Bool} (h : V3 v X a b s) (hb : Below v.heap.size v v') : V3 v' X a b s := by
 obtain ⟨hc, hf⟩ := bcell hb
 have hl := h.lt
 exact ⟨(hc _ _ hl).trans h.c0, (hc _ _ hl).trans h.c1, (hc _ _ hl).trans h.c2, (hf _ _ hl).trans h.f0, (hf _ _ hl).trans h.f1, (hf _ _ hl).trans h.f2⟩
theorem V3.drew {v : World} {X : Nat} {a b : Int} {s : Bool} (h : V3 v X a b s) : V3 v.drew X a b s := ⟨h.c0, h.c1, h.c2, h.f0, h.f1, h.f2⟩
theorem V3.new (w : World) (a b : Int) (s : Bool) (T : TypeId) : V3 (w.alloc (.cells #[.int .i64 a, .int .i64 b, .bool s] T)) w.heap.size a b s := by
 constructor <;> simp [go_sem]
theorem V3.set {v : World} {X : Nat} {a b : Int} {s : Bool} (h : V3 v X a b s) (c d : Int) (t : Bool) : V3 (((v.setCell ⟨X, 0, none⟩ (.int .i64 c)).setCell ⟨X, 1, none⟩ (.int .i64 d)).setCell ⟨X, 2, none⟩ (.bool t)) X c d t := by
 obtain ⟨c0, c1, c2, f0, f1, f2⟩ := h
 constructor <;> simp [go_sem, *]
theorem V3.other {v : World} {X Y : Nat} {a b : Int} {s : Bool} (h : V3 v X a b s) (hn : X ≠ Y) (x y z : Value) : V3 (((v.setCell ⟨Y, 0, none⟩ x).setCell ⟨Y, 1, none⟩ y).setCell ⟨Y, 2, none⟩ z) X a b s := by
 obtain ⟨c0, c1, c2, f0, f1, f2⟩ := h
 constructor <;> simp [go_sem, *]
/-- Facts on temporaries: operation k, if it has come up, has left the k-th value in slot m + k. -/
def FF (m : Nat) (vs : List Value) (zB : Nat → Bool) (zS : Nat → Value) : Prop := ∀ k v, vs[k]? = some v → zB k = true → zS (m + k) = v
def ups (zB : Nat → Bool) : List Nat → Nat → Bool
 | [], j => zB j
 | k :: r, j => if j = k then true else ups zB r j
def upv (m : Nat) (vs : List Value) (zS : Nat → Value) : List Nat → Nat → Value
 | [], d => zS d
 | k :: r, d => if d = m + k then (match vs[k]? with | some v => v | none => zS d) else upv m vs zS r d
theorem ff0 {m : Nat} {vs : List Value} {zS : Nat → Value} : FF m vs (fun _ => false) zS := fun _ _ _ e => ft e
theorem ups_or {zB : Nat → Bool} : ∀ {ks : List Nat} {k : Nat}, ups zB ks k = true → k ∈ ks ∨ zB k = true
 | [], _, h => .inr h
 | k' :: r, k, h => by
  unfold ups at h
  split at h
  ·exact .inl (by simp [*])
  ·rcases ups_or h with h | h
   ·exact .inl (List.mem_cons_of_mem _ h)
   ·exact .inr h
theorem upv_in {m : Nat} {vs : List Value} {zS : Nat → Value} {k : Nat} {v : Value} (hv : vs[k]? = some v) : ∀ {ls : List Nat}, k ∈ ls ∨ zS (m + k) = v → upv m vs zS ls (m + k) = v
 | [], h => by simpa [upv] using h
 | k' :: r, h => by
  unfold upv
  split
  ·rename_i e
   have : k = k' := by omega
   subst this
   rw [hv]
  ·rename_i e
   refine upv_in hv ?_
   rcases h with h | h
   ·rcases List.mem_cons.1 h with h | h
    ·subst h; exact absurd rfl e
    ·exact .inl h
   ·exact .inr h
theorem rk {m : Nat} {vs : List Value} {zB : Nat → Bool} {zS : Nat → Value} {ks ls : List Nat} (h : FF m vs zB zS) (hk : (ks.all fun k => ls.contains k || Nat.ble vs.length k) = true) : FF m vs (ups zB ks) (upv m vs zS ls) := by
 intro k v hv hb
 refine upv_in hv ?_
 rcases ups_or hb with hm | hm
 ·have := List.all_eq_true.1 hk k hm
  rcases Bool.or_eq_true _ _ ▸ this with e | e
  ·exact .inl (by simpa using e)
  ·have := (List.getElem?_eq_some_iff.1 hv).1
   have := Nat.le_of_ble_eq_true e
   omega
 ·exact .inr (h k v hv hm)
/-- What an operation waits for has come up. -/
theorem mt {o : Oper} {L : Array Bool} (k : Nat) (h : metB o L = true) (hk : (o.after.any fun e => Region.binds .any e && e.on == k) = true) : L.getD k false = true := by
 unfold metB at h
 rw [Array.any_eq_true'] at hk
 obtain ⟨e, he, hb⟩ := hk
 have := Array.all_eq_true'.1 h e he
 simp only [Bool.and_eq_true, beq_iff_eq] at hb
 rw [hb.1, hb.2] at this
 simpa using this
theorem pE : (∀ a, puts a [] = a) ∧ (∀ a t v l, puts a ((t, v) :: l) = puts (a.put (some t) v) l) ∧ (∀ t ds d v, Act.put ⟨t, ds⟩ (some d) v = ⟨t.setIfInBounds d v, ds⟩) ∧ (∀ (l : List Value) i a, l.toArray.setIfInBounds i a = (l.set i a).toArray) ∧ (∀ (a : Value) l b, (a :: l).set 0 b = b :: l) ∧ (∀ (a : Value) l i b, (a :: l).set (i + 1) b = a :: l.set i b) :=
 ⟨fun _ => rfl, fun _ _ _ _ => rfl, fun _ _ _ _ => rfl, List.setIfInBounds_toArray, fun _ _ _ => rfl, fun _ _ _ _ => rfl⟩
end Go.Proofs.YtihpajiololfoaaGreat
namespace Go.Proofs.YtihpajiololfoaaGreat

abbrev Y := Int × Int
def LtY (a b : Y) : Prop := a.1 < b.1 ∨ (a.1 = b.1 ∧ a.2 < b.2)
instance (a b : Y) : Decidable (LtY a b) := by unfold LtY; infer_instance
theorem LtY.irrefl (a : Y) : ¬ LtY a a := by unfold LtY; omega
theorem LtY.trans {a b c : Y} (h : LtY a b) (g : LtY b c) : LtY a c := by unfold LtY at *; omega
theorem LtY.ne {a b : Y} (h : LtY a b) : a ≠ b := fun e => LtY.irrefl a (by rw [← e] at h; exact h)
theorem LtY.tri (a b : Y) : a = b ∨ LtY a b ∨ LtY b a := by
 unfold LtY
 obtain ⟨a1, a2⟩ := a
 obtain ⟨b1, b2⟩ := b
 simp only [Prod.mk.injEq]
 omega
def cmpI (a b : Int) : Int := if a < b then -1 else if b < a then 1 else 0
def cmpY (a b : Y) : Int := if cmpI a.1 b.1 ≠ 0 then cmpI a.1 b.1 else cmpI a.2 b.2
theorem cmpY_lt (a b : Y) : cmpY a b < 0 ↔ LtY a b := by
 unfold cmpY cmpI LtY
 repeat' split
 all_goals omega
theorem cmpY_zero (a b : Y) : cmpY a b = 0 ↔ a = b := by
 obtain ⟨a1, a2⟩ := a
 obtain ⟨b1, b2⟩ := b
 unfold cmpY cmpI
 simp only [Prod.mk.injEq]
 repeat' split
 all_goals omega
/-- A list of terms, ascending, with just these members. -/
structure IsSet (m L : List Y) : Prop where
 asc : m.Pairwise LtY
 mem : ∀ p, p ∈ m ↔ p ∈ L
theorem asc_nodup {m : List Y} (h : m.Pairwise LtY) : m.Nodup := h.imp fun h => h.ne
theorem asc_unique : ∀ {m m' : List Y}, m.Pairwise LtY → m'.Pairwise LtY → (∀ p, p ∈ m ↔ p ∈ m') → m = m'
 | [], [], _, _, _ => rfl
 | [], b :: l', _, _, h => absurd ((h b).2 (by simp)) (by simp)
 | a :: l, [], _, _, h => absurd ((h a).1 (by simp)) (by simp)
 | a :: l, b :: l', ha, hb, h => by
  rw [List.pairwise_cons] at ha hb
  have e : a = b := by
   rcases LtY.tri a b with e | e | e
   ·exact e
   ·rcases List.mem_cons.1 ((h a).1 (by simp)) with e2 | e2
    ·exact e2
    ·exact absurd (e.trans (hb.1 a e2)) (LtY.irrefl a)
   ·rcases List.mem_cons.1 ((h b).2 (by simp)) with e2 | e2
    ·exact e2.symm
    ·exact absurd (e.trans (ha.1 b e2)) (LtY.irrefl b)
  subst e
  congr 1
  refine asc_unique ha.2 hb.2 fun p => ⟨fun hp => ?_, fun hp => ?_⟩
  ·rcases List.mem_cons.1 ((h p).1 (by simp [hp])) with e2 | e2
   ·subst e2
    exact absurd (ha.1 _ hp) (LtY.irrefl _)
   ·exact e2
  ·rcases List.mem_cons.1 ((h p).2 (by simp [hp])) with e2 | e2
   ·subst e2
    exact absurd (hb.1 _ hp) (LtY.irrefl _)
   ·exact e2
theorem IsSet.unique {m m' L : List Y} (h : IsSet m L) (h' : IsSet m' L) : m = m' := asc_unique h.asc h'.asc fun p => (h.mem p).trans (h'.mem p).symm
theorem IsSet.self {L : List Y} (h : L.Pairwise LtY) : IsSet L L := ⟨h, fun _ => Iff.rfl⟩
theorem IsSet.same {m L : List Y} (h : IsSet m L) : L = m ↔ L.Pairwise LtY :=
 ⟨fun e => by rw [e]; exact h.asc, fun a => (h.unique (IsSet.self a)).symm⟩
theorem IsSet.le {m L : List Y} (h : IsSet m L) : m.length ≤ L.length := (asc_nodup h.asc).length_le_of_subset fun p hp => (h.mem p).1 hp
theorem IsSet.full {m L : List Y} (h : IsSet m L) : m.length = L.length ↔ L.Nodup := by
 refine ⟨fun e => ?_, fun nd => ?_⟩
 ·-- the set is as long as the list: nothing stands twice
  refine Classical.byContradiction fun hn => ?_
  have key : ∀ {l : List Y}, ¬ l.Nodup → ∃ l' : List Y, l'.length < l.length ∧ ∀ p, p ∈ l ↔ p ∈ l' := by
   intro l
   induction l with
   | nil => intro h; exact absurd List.nodup_nil h
   | cons a l ih =>
    intro h
    by_cases ha : a ∈ l
    ·exact ⟨l, by simp, fun p => by simp; intro e; subst e; exact ha⟩
    ·have : ¬ l.Nodup := fun g => h (List.nodup_cons.2 ⟨ha, g⟩)
     obtain ⟨l', h1, h2⟩ := ih this
     exact ⟨a :: l', by simp; omega, fun p => by simp [h2 p]⟩
  obtain ⟨l', h1, h2⟩ := key hn
  have h3 := (IsSet.mk h.asc fun p => (h.mem p).trans (h2 p)).le
  omega
 ·exact ((List.perm_ext_iff_of_nodup (asc_nodup h.asc) nd).2 h.mem).length_eq
theorem IsSet.nil : IsSet [] [] := ⟨List.Pairwise.nil, fun _ => Iff.rfl⟩
/-- One more, which the last one is. -/
theorem IsSet.again {m L : List Y} {a : Y} (h : IsSet m L) (hl : a ∈ L) : IsSet m (L ++ [a]) :=
 ⟨h.asc, fun p => by rw [h.mem p]; simp; intro e; subst e; exact hl⟩
/-- One more, beyond all. -/
theorem IsSet.more {m L : List Y} {a : Y} (h : IsSet m L) (hl : ∀ p, p ∈ L → LtY p a) : IsSet (m ++ [a]) (L ++ [a]) :=
 ⟨List.pairwise_append.2 ⟨h.asc, by simp, fun p hp q hq => by simp at hq; subst hq; exact hl p ((h.mem p).1 hp)⟩, fun p => by simp [h.mem p]⟩
/-! Segments as data -/
abbrev VV := Int × Int × Bool
def lenP (size l : Int) : Prop := (2 ≤ size ∧ size ≤ 13) ∧ (1 ≤ l ∧ l ≤ size - 1)
instance (size l : Int) : Decidable (lenP size l) := by unfold lenP; infer_instance
def symP (size : Int) (p : Y) : Prop := (1 ≤ size ∧ size ≤ 13) ∧ (0 ≤ p.1 ∧ p.1 ≤ size - 1) ∧ (-1000 ≤ p.2 ∧ p.2 ≤ 1000)
instance (size : Int) (p : Y) : Decidable (symP size p) := by unfold symP; infer_instance
structure RowP (size : Int) (b : List Y) : Prop where
 ne : b ≠ []
 sym : ∀ p, p ∈ b → symP size p
 asc : b.Pairwise LtY
structure OkS (size l : Int) (B : List (List Y)) (V : List VV) (M : List Bool) : Prop where
 len : lenP size l
 k1 : 1 ≤ B.length
 k2 : B.length ≤ 16
 v : V.length + 1 = B.length
 m : M.length + 1 = B.length
 tot : B.flatten.length ≤ 40
 rows : ∀ b, b ∈ B → RowP size b
 nodup : B.flatten.Nodup
 vals : ∀ v, v ∈ V → okB v.1 v.2.1 = true
 first : ((0, 0) : Y) ∈ B.headD []
 last : ((l, 0) : Y) ∈ B.getLastD []
/-- The first row in which a term stands. -/
def inY (B : List (List Y)) (t : Y) : Option Nat := B.findIdx? fun b => decide (t ∈ b)
def toI : Option Nat → Int
 | some n => n
 | none => -1
theorem inY_some {B : List (List Y)} {t : Y} {i : Nat} : inY B t = some i ↔ ∃ h : i < B.length, t ∈ B[i] ∧ ∀ j (hj : j < i), t ∉ B[j] := by
 unfold inY
 rw [List.findIdx?_eq_some_iff_getElem]
 simp
theorem inY_none {B : List (List Y)} {t : Y} : inY B t = none ↔ ∀ b, b ∈ B → t ∉ b := by
 unfold inY
 rw [List.findIdx?_eq_none_iff]
 simp
theorem toI_eq {o : Option Nat} {i : Nat} : toI o = (i : Int) ↔ o = some i := by
 cases o with
 | none => simp [toI]
 | some n => simp [toI]; omega
/-- All terms stand first where they stand: no two rows have one in common. -/
theorem nodup_of_in {B : List (List Y)} (ha : ∀ b, b ∈ B → b.Pairwise LtY) (h : ∀ (i : Nat) (b : List Y), B[i]? = some b → ∀ p, p ∈ b → inY B p = some i) : B.flatten.Nodup := by
 refine List.pairwise_flatten.2 ⟨fun b hb => asc_nodup (ha b hb), ?_⟩
 rw [List.pairwise_iff_getElem]
 intro i j hi hj hij p hp q hq e
 subst e
 have h1 := h i B[i] (List.getElem?_eq_getElem hi) p hp
 have h2 := h j B[j] (List.getElem?_eq_getElem hj) p hq
 rw [h1] at h2
 simp at h2
 omega
theorem in_of_nodup {B : List (List Y)} (h : B.flatten.Nodup) {i : Nat} {b : List Y} (hb : B[i]? = some b) {p : Y} (hp : p ∈ b) : inY B p = some i := by
 obtain ⟨hi, rfl⟩ := List.getElem?_eq_some_iff.1 hb
 refine inY_some.2 ⟨hi, hp, fun j hj hq => ?_⟩
 have := (List.pairwise_flatten.1 h).2
 rw [List.pairwise_iff_getElem] at this
 exact this j i (by omega) hi hj p hq p hp rfl
theorem tot_take (B : List (List Y)) (i : Nat) : (B.take i).flatten.length ≤ B.flatten.length := by
 have : B.flatten = (B.take i).flatten ++ (B.drop i).flatten := by rw [← List.flatten_append, List.take_append_drop]
 rw [this]; simp
theorem tot_succ {B : List (List Y)} {i : Nat} {b : List Y} (h : B[i]? = some b) : (B.take (i + 1)).flatten.length = (B.take i).flatten.length + b.length := by
 rw [List.take_add_one, h]; simp
end Go.Proofs.YtihpajiololfoaaGreat
