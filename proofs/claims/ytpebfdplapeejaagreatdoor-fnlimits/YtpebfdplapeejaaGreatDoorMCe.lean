/-
  CONTRACTS of the program's plainStart, plainLoop.
  A REGION THAT DRAWS ITS ORDER, BY AN INVARIANT: one obligation for each operation, whatever has come up before it.
-/
import Derived.Test.YtpebfdplapeejaaGreatDoorMCc
import Derived.Deep.CutRange
import Derived.Deep.RegionHeld3
namespace Go.Proofs.YtpebfdplapeejaaGreatDoor
open Go.RowKit
open Pl

/-- plainTree answers a tree without for loops. -/
def PlainOk (t : T) : Prop := match t with
 | .node k s m kk => formedT (.node k s m kk) = true → cnt (.node k s m kk) ≤ 500 → ∀ (a : Option Addr) (cc : Nat) (w : World), Kids w 0 a kk → Calls Tryz.prog 40 #[.agg #[.int .i64 k, .string s, .int .i64 m, .slice a kk.length cc]] w (TPost (plnT (.node k s m kk)) w)
/-- A for in memory: its first kid's cells. -/
theorem kid_at {w w' : World} {a : Option Addr} {D : List T} {i : Nat} {k m : Int} {s : ByteArray} {kk : List T} (hk : Kids w 0 a D) (hb : Below w.heap.size w w') (hx : D[i]? = some (.node k s m kk)) :
  ∃ (b o : Nat) (xa : Option Addr) (xc : Nat), a = some ⟨b, o, none⟩ ∧ (∀ W, Below w'.heap.size w' W → W.cell? ⟨b, o + i * 4, none⟩ = some (.int .i64 k) ∧ W.cell? ⟨b, o + i * 4 + 1, none⟩ = some (.string s) ∧ W.cell? ⟨b, o + i * 4 + 2, none⟩ = some (.int .i64 m) ∧ W.cell? ⟨b, o + i * 4 + 3, none⟩ = some (.slice xa kk.length xc) ∧ Kids W 0 xa kk) := by
 obtain ⟨b, o, xa, xc, rfl, c0, c1, c2, c3, _, _, h⟩ := node_at hk hb hx
 have hl := World.block_lt_of_cell? w' _ c0
 exact ⟨b, o, xa, xc, rfl, fun W hW => ⟨(hW.cell (p := ⟨b, _, none⟩) hl).trans c0, (hW.cell (p := ⟨b, o + i * 4 + 1, none⟩) hl).trans c1, (hW.cell (p := ⟨b, o + i * 4 + 2, none⟩) hl).trans c2, (hW.cell (p := ⟨b, o + i * 4 + 3, none⟩) hl).trans c3, h.below hW⟩⟩
set_option maxRecDepth 100000 in
set_option maxHeartbeats 3200000 in
theorem start_any (s : ByteArray) (m : Int) (t1 t2 t3 : T) (a : Option Addr) (cc : Nat) (w : World) (hs : s.size ≤ 8) (hk : Kids w 0 a [t1, t2, t3]) (h1 : PlainOk t1) (hf : formedT t1 = true) (hc : cnt t1 ≤ 500) :
  Calls Tryz.prog 56 #[.agg #[.int .i64 26, .string s, .int .i64 m, .slice a 3 cc]] w (TPost (setT s (plnT t1)) w) := by
 obtain ⟨k1, s1, m1, kk1⟩ := t1
 have B1 : Below w.heap.size w ((w.alloc (.cells #[.int .i64 26, .string s, .int .i64 m, .slice a 3 cc] 33)).alloc (.cells #[.int .i64 0, .string ⟨#[]⟩, .int .i64 0, .slice none 0 0] 33)) := ((Below.refl w.heap.size w).alloc (Nat.le_refl _) _).alloc (by simp) _
 have F0 := Four.new w 26 s m a 3 cc 33
 have F1 := F0.below ((Below.refl _ _).alloc (Nat.le_refl _) (.cells #[.int .i64 0, .string ⟨#[]⟩, .int .i64 0, .slice none 0 0] 33))
 have h0 := heap_alloc_new (w.alloc (.cells #[.int .i64 26, .string s, .int .i64 m, .slice a 3 cc] 33)) (.cells #[.int .i64 0, .string ⟨#[]⟩, .int .i64 0, .slice none 0 0] 33)
 have hsz : (w.alloc (.cells #[.int .i64 26, .string s, .int .i64 m, .slice a 3 cc] 33)).heap.size = w.heap.size + 1 := by simp
 rw [hsz] at h0
 obtain ⟨P, hP⟩ : ∃ q, w.heap.size = q := ⟨_, rfl⟩
 obtain ⟨w1, hw1⟩ : ∃ q, (w.alloc (.cells #[.int .i64 26, .string s, .int .i64 m, .slice a 3 cc] 33)).alloc (.cells #[.int .i64 0, .string ⟨#[]⟩, .int .i64 0, .slice none 0 0] 33) = q := ⟨_, rfl⟩
 rw [hw1] at h0 F1 B1
 rw [hP] at h0 F1
 have HB := mkHid B1
 obtain ⟨b, o, xa, xc, rfl, hkd⟩ := kid_at hk B1 (i := 0) rfl
 have HKD := mkHid hkd
 obtain ⟨c0, c1, c2, c3, _⟩ := hkd w1.drew (Below.refl _ _).drew
 simp only [Nat.zero_mul, Nat.add_zero] at c0 c1 c2 c3
 have HCL := mkHid (fun W hW => h1 hf hc xa xc W (hkd W hW).2.2.2.2)
 have HF1 := mkHid F1
 obtain ⟨p0, p1, p2, p3⟩ := F1
 have H0 := mkHid h0
 have hlt : P + 1 < w1.heap.size := (Array.getElem?_eq_some_iff.1 h0).1
 clear hkd h1 hf hc hk B1
 go_enter Tryz.func56, Tryz.ntmps56
 go_wp2_with fail
 first | rw [hw1] | skip
 first | rw [hP] | skip
 clear hw1 hsz F0 h0
 go_region_law (first | (go_simp; go_at_call 40; refine (HCL.out _ (Below.refl _ _).drew).mono ?_; rintro e w2 ⟨x, rfl, hxe, hxm, hb2⟩; obtain ⟨zk, zs, zm, za, zc, zkk⟩ := x; simp only [A.val]; obtain ⟨r0, r1, r2, r3⟩ := Four.below (w := w1.drew) ⟨p0, p1, p2, p3⟩ hb2; have HX := mkHid (And.intro hxe hxm); have HB2 := mkHid hb2; clear hxe hxm hb2) | (go_simp; go_at_call 70; refine (setTo_any s (.node zk zs zm za zc zkk) _ hs).mono ?_; rintro e w3 ⟨bb, rfl, hB, hge, hb3⟩; have HB3 := mkHid hb3; have H3 := mkHid ((hb3.block (P + 1) (Nat.lt_of_lt_of_le hlt HB2.out.size)).trans ((HB2.out.block (P + 1) hlt).trans H0.out)); have HG := mkHid (And.intro hB hge); obtain ⟨d0, d1, d2, d3, e0, e1, e2, e3⟩ := four_of H3.out; clear hB hge hb3; simp only [A.val]))
 all_goals
  go_wp2
  have hz2 := HB2.out.size
  have hz3 := HB3.out.size
  have hz1 : w1.heap.size = w1.drew.heap.size := rfl
  obtain ⟨hxe, hxm⟩ := HX.out
  have hxt := hxm.tree
  have t4 := made_mine (n := w1.heap.size) (k := 21) (m := 0) (s := s) (sitsL_one hxt.1) HB3.out HG.out.1 HG.out.2 (NewL.one hxt.2.1) hz2 (by unfold maxLen; omega) (by simp [maxLen])
  obtain ⟨q0, q1, q2, q3⟩ := put4_cells0 H3.out (.int .i64 21) (.string s) (.int .i64 0) (.slice (some ⟨bb, 0, none⟩) 1 1)
  refine bodyPost_ret (v := (A.node 21 s 0 (some ⟨bb, 0, none⟩) 1 [.node zk zs zm za zc zkk]).val) (by simp [results, Tryz.results56, go_sem, q0, q1, q2, q3, A.val]) rfl ⟨_, rfl, ?_, ?_, ?_⟩
  ·rw [erase1, hxe]; rfl
  ·exact (t4.put4 hlt _ _ _ _).mono HB.out.size
  ·exact below_put4 (below_step (below_step HB.out.drew HB2.out) HB3.out) (by omega) _ _ _ _
end Go.Proofs.YtpebfdplapeejaaGreatDoor
namespace Go.Proofs.YtpebfdplapeejaaGreatDoor
open Go.RowKit

theorem ft {p : Prop} (e : false = true) : p := by cases e
theorem tf {p : Prop} (e : true = false) : p := by cases e
/-- What an operation waits for has come up. -/
def metB (o : Oper) (L : Array Bool) : Bool := o.after.all fun e => !Region.binds .any e || L.getD e.on false
/-- Each of the operations from number k on may come up wherever the invariant holds, and leaves it. -/
def StepsI (P : Program) (ops : Array Oper) (Q : Exit → Act → World → Prop) (I : Array Bool → Act → World → Prop) (k : Nat) : Prop :=
 ∀ i, k ≤ i → i < ops.size → ∀ L a w, I L a w → i ∈ Region.ready .any ops L → wpOp P ops Q i (fun a' w' => I (L.setIfInBounds i true) a' w') a w
theorem StepsI.nil {P : Program} {ops : Array Oper} {Q : Exit → Act → World → Prop} {I : Array Bool → Act → World → Prop} {k : Nat} (h : ops.size = k) : StepsI P ops Q I k := fun i h1 h2 => by omega
theorem StepsI.cons {P : Program} {ops : Array Oper} {Q : Exit → Act → World → Prop} {I : Array Bool → Act → World → Prop} {k : Nat} {o : Oper} (ho : ops[k]? = some o)
  (h : ∀ L a w, I L a w → L.getD k true = false → metB o L = true → ∀ K' : Act → World → Prop, Shut (∀ a w, I (L.setIfInBounds k true) a w → K' a w) → if Region.wanted o (yielded ops a.tmps) = true then Oper.wp P o a w K' Q else K' (a.put o.dst undef) w)
  (hs : StepsI P ops Q I (k + 1)) : StepsI P ops Q I k := fun i h1 h2 L a w hI hr => by
 by_cases e : i = k
 ·subst e
  obtain ⟨hL, o', ho', hall⟩ := mem_ready.1 hr
  obtain rfl : o = o' := Option.some.inj (ho.symm.trans ho')
  refine wpOp_step ho fun K' hK => h L a w hI hL ?_ K' hK
  unfold metB
  rw [Array.all_eq_true']
  intro e he
  cases hb : Region.binds .any e
  ·rfl
  ·rw [hall e he hb]; rfl
 ·exact hs i (by omega) h2 L a w hI hr
/-- How many have not come up. -/
def left (n : Nat) (L : Array Bool) : Nat := ((List.range n).filter fun i => !L.getD i true).length
theorem left_next {n i : Nat} {L : Array Bool} (hi : i < n) (h : L.getD i true = false) : left n (L.setIfInBounds i true) < left n L := by
 unfold left
 have hsub : ∀ (l : List Nat), (l.filter fun j => !(L.setIfInBounds i true).getD j true).length ≤ (l.filter fun j => !L.getD j true).length ∧ (i ∈ l → (l.filter fun j => !(L.setIfInBounds i true).getD j true).length < (l.filter fun j => !L.getD j true).length) := by
  intro l
  induction l with
  | nil => exact ⟨by simp, fun h => by cases h⟩
  | cons j l ih =>
   have hj : (L.setIfInBounds i true).getD j true = if j = i then true else L.getD j true := by
    by_cases e : j = i
    ·subst e
     rw [if_pos rfl]
     simp only [Array.getD_eq_getD_getElem?, Array.getElem?_setIfInBounds]
     by_cases hs : j < L.size
     ·simp [hs]
     ·simp [hs]
    ·rw [if_neg e]
     simp only [Array.getD_eq_getD_getElem?, Array.getElem?_setIfInBounds]
     rw [if_neg (fun h => e h.symm)]
   have h1 := ih.1
   by_cases e : j = i
   ·subst e
    rw [if_pos rfl] at hj
    rw [List.filter_cons_of_neg (by rw [hj]; decide), List.filter_cons_of_pos (by rw [h]; rfl), List.length_cons]
    exact ⟨by omega, fun _ => by omega⟩
   ·rw [if_neg e] at hj
    have h2 := ih.2
    cases hL : L.getD j true
    ·rw [List.filter_cons_of_pos (by rw [hj, hL]; rfl), List.filter_cons_of_pos (by rw [hL]; rfl), List.length_cons, List.length_cons]
     exact ⟨by omega, fun hm => by have := h2 (by rcases List.mem_cons.1 hm with h | h; exact absurd h.symm e; exact h); omega⟩
    ·rw [List.filter_cons_of_neg (by rw [hj, hL]; decide), List.filter_cons_of_neg (by rw [hL]; decide)]
     exact ⟨h1, fun hm => h2 (by rcases List.mem_cons.1 hm with h | h; exact absurd h.symm e; exact h)⟩
 exact (hsub _).2 (List.mem_range.2 hi)
theorem wpAny_inv {P : Program} {ops : Array Oper} {Q : Exit → Act → World → Prop} {I : Array Bool → Act → World → Prop} (hs : StepsI P ops Q I 0)
  (he : ∀ L a w, I L a w → Region.ready .any ops L = [] → Q .normal a w) : ∀ (fuel : Nat) L a w, left ops.size L ≤ fuel → I L a w → wpAny P .any ops Q fuel L a w
 | 0, L, a, w, hf, hI => by
  have hr : Region.ready .any ops L = [] := List.eq_nil_iff_forall_not_mem.2 fun i hi => by
   obtain ⟨hL, o, ho, _⟩ := mem_ready.1 hi
   have := left_next (Array.getElem?_eq_some_iff.1 ho).1 hL
   omega
  exact ⟨hr, he L a w hI hr⟩
 | fuel + 1, L, a, w, hf, hI => by
  refine ⟨fun h => he L a w hI h, fun i hi => ?_⟩
  obtain ⟨hL, o, ho, _⟩ := mem_ready.1 hi
  have hi' := (Array.getElem?_eq_some_iff.1 ho).1
  have hlt := left_next hi' hL
  exact wpOp_mono (fun a' w' h => wpAny_inv hs he fuel _ a' w' (by omega) h) (hs i (Nat.zero_le _) hi' L a w hI hi)
/-- THE RULE. -/
theorem wp_region_inv {P : Program} {ops : Array Oper} {Q : Exit → Act → World → Prop} {id : Nat} {a : Act} {w : World} (I : Array Bool → Act → World → Prop) (hm : P.follows .mixedOrders = true)
  (h0 : I (Array.replicate ops.size false) a w.drew) (hs : StepsI P ops Q I 0) (he : ∀ L a w, I L a w → Region.ready .any ops L = [] → Q .normal a w) : (Code.region id ops true).wp P Q a w :=
 wp_region_any hm (wpAny_inv hs he _ _ _ _ (by
  unfold left
  refine Nat.le_trans (List.length_filter_le _ _) ?_
  simp) h0)

/-- No operation waits for a later one. -/
def forthB (ops : Array Oper) : Bool := (List.range ops.size).all fun i => match ops[i]? with | some o => o.after.all fun e => !Region.binds .any e || decide (e.on < i) | none => true
/-- Where none may come up all have. -/
theorem all_up {ops : Array Oper} {L : Array Bool} (hf : forthB ops = true) {N : Nat} (hN : ops.size = N) (hr : Region.ready .any ops L = []) : ∀ i, i < N → L.getD i false = true ∨ L.size ≤ i := by
 subst hN
 intro i
 induction i using Nat.strongRecOn with
 | ind i ih =>
  intro hi
  by_cases hs : L.size ≤ i
  ·exact .inr hs
  ·refine .inl ?_
   cases hL : L.getD i false with
   | true => rfl
   | false =>
    exfalso
    have hL' : L.getD i true = false := by
     simp only [Array.getD_eq_getD_getElem?] at hL ⊢
     rw [Array.getElem?_eq_getElem (by omega)] at hL ⊢
     exact hL
    have hf' := List.all_eq_true.1 hf i (List.mem_range.2 hi)
    rw [Array.getElem?_eq_getElem hi] at hf'
    have : i ∈ Region.ready .any ops L := mem_ready.2 ⟨hL', ops[i], Array.getElem?_eq_getElem hi, fun e he hbd => by
     have h0 := Array.all_eq_true'.1 hf' e he
     rw [hbd] at h0
     have h1 := of_decide_eq_true (by simpa using h0 : decide (e.on < i) = true)
     rcases ih e.on h1 (by omega) with h | h
     ·exact h
     ·omega⟩
    rw [hr] at this
    cases this
/-- Temporaries that have been put anew. -/
def puts (a : Act) : List (Nat × Value) → Act
 | [] => a
 | (t, v) :: l => puts (a.put (some t) v) l
/-- THE RULE, the state at the region's beginning handed to the invariant. -/
theorem wp_region_inv2 {P : Program} {ops : Array Oper} {Q : Exit → Act → World → Prop} {id : Nat} {a : Act} {w : World} (I : Act → Array Bool → Act → World → Prop) (hm : P.follows .mixedOrders = true)
  (h0 : I a (Array.replicate ops.size false) a w.drew) (hs : StepsI P ops Q (I a) 0) (he : ∀ L a' v, I a L a' v → Region.ready .any ops L = [] → Q .normal a' v) : (Code.region id ops true).wp P Q a w :=
 wp_region_inv (I a) hm h0 hs he

/-- The blocks of a tree. -/
def A.blocks : A → List Nat
 | .node _ _ _ a c kk => (Value.slice a kk.length c).ownBlock.toList ++ feet kk
theorem A.mine.lt {w : World} {B : Nat} {x : A} (h : x.mine w B) {q : Nat} (hq : q ∈ x.blocks) : B ≤ q ∧ q < w.heap.size := by
 obtain ⟨k, s, m, a, c, kk⟩ := x
 rcases List.mem_append.1 hq with hq | hq
 ·exact h.1.own.lt q (by simpa using hq)
 ·exact ⟨h.1.new.2 q hq, SitsL.lt h.1.sits q hq⟩
theorem A.mine.kept {w w' : World} {B p : Nat} {x : A} (h : x.mine w B) (hg : w.grownBy w' (some p)) (hp : p ∉ x.blocks) : x.mine w' B := by
 obtain ⟨k, s, m, a, c, kk⟩ := x
 have lt := SitsL.lt h.1.sits
 simp only [A.blocks, List.mem_append, not_or] at hp
 refine ⟨⟨h.1.own.kept hg ?_, h.1.sits.stay fun q hq => hg.block q (lt q hq) fun e => ?_, h.1.new, h.1.apart⟩, h.2⟩
 ·exact .inr fun e => hp.1 (by rw [e]; simp)
 ·cases e; exact hp.2 hq
theorem A.mine.foot {w : World} {B : Nat} {x : A} (h : x.mine w B) {q : Nat} (hq : q ∈ x.foot) : q ∈ x.blocks := by
 obtain ⟨k, s, m, a, c, kk⟩ := x
 simp only [A.foot] at hq
 rcases List.mem_append.1 hq with hq | hq
 ·refine List.mem_append.2 (.inl ?_)
  rcases h.1.own.2 with ⟨e, h0⟩ | ⟨g, cap, cur, e, _⟩
  ·rw [if_pos h0] at hq; cases hq
  ·rw [e]
   simp at e
   rw [e.1] at hq
   split at hq
   ·cases hq
   ·simpa [blockOf, Value.ownBlock] using hq
 ·exact List.mem_append.2 (.inr hq)
def varA (s : ByteArray) : A := .node 2 s 0 none 0 []
def zeroN : Array Value := #[.int .i64 0, .string ⟨#[]⟩, .int .i64 0, .slice none 0 0]
/-- While the condition of a loop is made. -/
structure LoopI (w1 v : World) (s : ByteArray) (t : T) (b7 b8 b10 b11 : Bool) (xb : A) (bc X : Nat) : Prop where
 bel : Below w1.heap.size w1 v
 tree : b7 = true → xb.mine v w1.heap.size ∧ xb.erase = t
 row : b8 = true → b7 = true ∧ w1.heap.size ≤ bc ∧ bc ∉ xb.blocks ∧ v.heap[bc]? = some (.cells (cellsL [varA s, xb]).toArray 33 (0, 0))
 ord : b11 = true → b8 = true ∧ b10 = true
 box : b10 = true → w1.heap.size ≤ X ∧ (b7 = true → X ∉ xb.blocks) ∧ (b8 = true → X ≠ bc) ∧ v.heap[X]? = some (.cells (if b11 = true then #[.int .i64 11, .string ⟨#[]⟩, .int .i64 0, .slice (some ⟨bc, 0, none⟩) 2 2] else zeroN) 33 (0, 0))
section
variable {w1 v v' : World} {s : ByteArray} {t : T} {b7 b8 b10 b11 : Bool} {xb : A} {bc X : Nat}
theorem heap_lt' {w : World} {b : Nat} {o : Obj} (h : w.heap[b]? = some o) : b < w.heap.size := (Array.getElem?_eq_some_iff.1 h).1
theorem LoopI.start (h : Below w1.heap.size w1 v) : LoopI w1 v s t false false false false xb bc X := ⟨h, fun e => ft e, fun e => ft e, fun e => ft e, fun e => ft e⟩
theorem LoopI.below (h : LoopI w1 v s t b7 b8 b10 b11 xb bc X) (hb : Below v.heap.size v v') : LoopI w1 v' s t b7 b8 b10 b11 xb bc X :=
 ⟨below_step h.bel hb, fun e => ⟨(h.tree e).1.below hb, (h.tree e).2⟩, fun e => ⟨(h.row e).1, (h.row e).2.1, (h.row e).2.2.1, (hb.block bc (heap_lt' (h.row e).2.2.2)).trans (h.row e).2.2.2⟩, h.ord,
  fun e => ⟨(h.box e).1, (h.box e).2.1, (h.box e).2.2.1, (hb.block X (heap_lt' (h.box e).2.2.2)).trans (h.box e).2.2.2⟩⟩
theorem LoopI.called {x : A} (h : LoopI w1 v s t false b8 b10 b11 xb bc X) (hb : Below v.heap.size v v') (hx : x.mine v' v.heap.size) (he : x.erase = t) : LoopI w1 v' s t true b8 b10 b11 x bc X := by
 have h8 : b8 = true → False := fun e => by have := (h.row e).1; cases this
 refine ⟨below_step h.bel hb, fun _ => ⟨hx.mono h.bel.size, he⟩, fun e => (h8 e).elim, h.ord, fun e => ⟨(h.box e).1, fun _ hq => ?_, fun e => (h8 e).elim, (hb.block X (heap_lt' (h.box e).2.2.2)).trans (h.box e).2.2.2⟩⟩
 have := (hx.lt hq).1
 have := heap_lt' (h.box e).2.2.2
 omega
theorem LoopI.laid (h : LoopI w1 v s t true false b10 b11 xb bc X) : LoopI w1 (v.alloc (.cells (cellsL [varA s, xb]).toArray 33)) s t true true b10 b11 xb v.heap.size X := by
 obtain rfl : b11 = false := by cases b11 with | false => rfl | true => exact tf (h.ord rfl).1.symm
 have hb : Below v.heap.size v (v.alloc (.cells (cellsL [varA s, xb]).toArray 33)) := (Below.refl _ _).alloc (Nat.le_refl _) _
 have h' := h.below hb
 refine ⟨h'.bel, h'.tree, fun _ => ⟨rfl, h.bel.size, fun hq => ?_, heap_alloc_new _ _⟩, fun e => ft e, fun e => ⟨(h.box e).1, (h.box e).2.1, fun _ e2 => ?_, ?_⟩⟩
 ·have := ((h.tree rfl).1.lt hq).2; omega
 ·have := heap_lt' (h.box e).2.2.2; omega
 ·have := (h'.box e).2.2.2
  rw [if_neg (by decide)] at this ⊢
  exact this
theorem LoopI.boxed (h : LoopI w1 v s t b7 b8 false b11 xb bc X) : LoopI w1 (v.alloc (.cells zeroN 33)) s t b7 b8 true b11 xb bc v.heap.size := by
 obtain rfl : b11 = false := by cases b11 with | false => rfl | true => exact tf (h.ord rfl).2.symm
 have hb : Below v.heap.size v (v.alloc (.cells zeroN 33)) := (Below.refl _ _).alloc (Nat.le_refl _) _
 have h' := h.below hb
 refine ⟨h'.bel, h'.tree, h'.row, fun e => ft e, fun _ => ⟨h.bel.size, fun e hq => ?_, fun e e2 => ?_, ?_⟩⟩
 ·have := ((h.tree e).1.lt hq).2; omega
 ·have := heap_lt' (h.row e).2.2.2; omega
 ·rw [if_neg (by decide)]; exact heap_alloc_new _ _
theorem LoopI.stored (h : LoopI w1 v s t true true true false xb bc X) : LoopI w1 (put4 v X (.int .i64 11) (.string ⟨#[]⟩) (.int .i64 0) (.slice (some ⟨bc, 0, none⟩) 2 2)) s t true true true true xb bc X := by
 obtain ⟨h1, h2, h3, h4⟩ := h.box rfl
 obtain ⟨r1, r2, r3, r4⟩ := h.row rfl
 rw [if_neg (by decide)] at h4
 refine ⟨below_put4 h.bel h1 _ _ _ _, fun _ => ⟨(h.tree rfl).1.kept (put4_grown v X _ _ _ _) (h2 rfl), (h.tree rfl).2⟩, fun _ => ⟨rfl, r2, r3, (put4_other _ _ _ _ (fun e => h3 rfl e.symm)).trans r4⟩, fun _ => ⟨rfl, rfl⟩, fun _ => ⟨h1, h2, h3, ?_⟩⟩
 rw [if_pos rfl]
 exact put4_at h4 _ _ _ _
/-- The condition is there. -/
theorem LoopI.cond (h : LoopI w1 v s t true true true true xb bc X) (hs : s.size ≤ maxLen) : ∃ x : A, x.val = .agg #[.int .i64 11, .string ⟨#[]⟩, .int .i64 0, .slice (some ⟨bc, 0, none⟩) 2 2] ∧ x.cells = [.int .i64 11, .string ⟨#[]⟩, .int .i64 0, .slice (some ⟨bc, 0, none⟩) 2 2] ∧ x.erase = .node 11 ⟨#[]⟩ 0 [varT s, t] ∧ x.mine v w1.heap.size ∧ X ∉ x.blocks := by
 obtain ⟨h1, h2, h3, h4⟩ := h.box rfl
 obtain ⟨r1, r2, r3, r4⟩ := h.row rfl
 obtain ⟨m1, m2⟩ := h.tree rfl
 have mt := m1.tree
 have hf : feet [varA s, xb] = xb.foot := by simp [feet, varA, A.foot]
 refine ⟨.node 11 ⟨#[]⟩ 0 (some ⟨bc, 0, none⟩) 2 [varA s, xb], rfl, rfl, by rw [erase2, m2]; rfl, ⟨⟨⟨by rw [cellsL_len], .inr ⟨bc, 2, _, rfl, r2, r4, Nat.le_refl 2, by simp [maxLen], by rw [List.size_toArray, cellsL_len]; rfl, by rw [show [varA s, xb].length * 4 = (cellsL [varA s, xb]).length by rw [cellsL_len]]; simp⟩⟩, ⟨(leaf_mine v 0 hs).tree.1, mt.1, trivial⟩, ?_, ?_⟩, by decide, by simp [maxLen]⟩, ?_⟩
 ·unfold NewL; rw [hf]; exact mt.2.1
 ·intro g e hq
  simp [Value.ownBlock] at e
  subst e
  rw [hf] at hq
  exact r3 (m1.foot hq)
 ·simp only [A.blocks, List.mem_append, hf, not_or]
  exact ⟨by simp [Value.ownBlock]; exact h3 rfl, fun hq => h2 rfl (m1.foot hq)⟩
end
end Go.Proofs.YtpebfdplapeejaaGreatDoor
