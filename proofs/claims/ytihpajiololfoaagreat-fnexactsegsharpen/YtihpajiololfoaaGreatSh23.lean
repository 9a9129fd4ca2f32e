/-
  WHOLE TABLES BY VALUE, in memory; CONTRACTS of the small functions on them.
  CONTRACTS of the caps, of both FactsOks, of what is none.
  CONTRACTS of both FactsOks.
-/
import Derived.Test.YtihpajiololfoaaGreatSh21
import Derived.Test.YtihpajiololfoaaGreatSh22
import Derived.Deep.MidRow
import Derived.Deep.WholeRow
import Derived.Deep.LoopGhost
namespace Go.Proofs.YtihpajiololfoaaGreat.Q
open Go.RowKit

def dL (n : Int) (G : List Int) : List Value := .int .i64 n :: ints G
def dA (n : Int) (G : List Int) : Array Value := (dL n G).toArray
def zs : List Int := List.replicate 169 0
theorem zs_len : zs.length = 169 := List.length_replicate
theorem info64 : (Tryz.prog.info? 80).map (fun i => (i.zero, i.size)) = some (some (.agg (dA 0 zs)), 170) := by kernel_rfl
theorem size64 : (Tryz.prog.info? 80).map (·.size) = some 170 := (zero_of_info info64).2
theorem dA0 (n : Int) (G : List Int) : (dA n G)[0]? = some (.int .i64 n) := rfl
theorem dL_len {n : Int} {G : List Int} (h : G.length = 169) : (dL n G).length = 170 := by simp [dL, ints_len, h]
theorem dA_size {n : Int} {G : List Int} (h : G.length = 169) : (dA n G).size = 170 := by simp [dA, dL_len h]
theorem dL_one {n : Int} {G : List Int} : ∀ v ∈ dL n G, v.oneCell' = true := by
  intro v hv
  simp only [dL, ints, List.mem_cons, List.mem_map] at hv
  rcases hv with rfl | ⟨x, _, rfl⟩ <;> rfl
/-- A table in a block that may be written. -/
structure Dif (w : World) (b : Nat) (n : Int) (G : List Int) : Prop where
  len : G.length = 169
  range : w.rangeAt b 0 (dL n G)
  there : w.there b 0 170
theorem Dif.size {w : World} {b : Nat} {n : Int} {G : List Int} (h : Dif w b n G) : w.cell? ⟨b, 0, none⟩ = some (.int .i64 n) := by simpa using h.range 0 _ rfl
theorem Dif.lt {w : World} {b : Nat} {n : Int} {G : List Int} (h : Dif w b n G) : b < w.heap.size := World.block_lt_of_cell? w _ h.size
theorem Dif.get {w : World} {b : Nat} {n : Int} {G : List Int} (h : Dif w b n G) {p : Nat} {x : Int} (hx : G[p]? = some x) : w.cell? ⟨b, 1 + p, none⟩ = some (.int .i64 x) := by
  have := h.range (p + 1) (.int .i64 x) (by simp [dL, ints_get, hx])
  rw [show 0 + (p + 1) = 1 + p by omega] at this
  exact this
theorem Dif.free {w : World} {b : Nat} {n : Int} {G : List Int} (h : Dif w b n G) {o : Nat} (ho : o < 170) : w.frozen? ⟨b, o, none⟩ = false := by simpa using (h.there o ho).2
theorem Dif.below {w w' : World} {b : Nat} {n : Int} {G : List Int} (h : Dif w b n G) (hb : Below w.heap.size w w') : Dif w' b n G :=
  ⟨h.len, fun j v hv => (hb.cell (p := ⟨b, 0 + j, none⟩) h.lt).trans (h.range j v hv), fun j hj => by rw [hb.cell (p := ⟨b, 0 + j, none⟩) h.lt, hb.frozen (p := ⟨b, 0 + j, none⟩) h.lt]; exact h.there j hj⟩
theorem Dif.drew {w : World} {b : Nat} {n : Int} {G : List Int} (h : Dif w b n G) : Dif w.drew b n G := h.below (Below.refl _ _).drew
theorem Dif.alloc {w : World} {b : Nat} {n : Int} {G : List Int} (h : Dif w b n G) (o : Obj) : Dif (w.alloc o) b n G := h.below ((Below.refl _ _).alloc (Nat.le_refl _) o)
theorem Dif.new (w : World) {n : Int} {G : List Int} (h : G.length = 169) (T : TypeId) : Dif (w.alloc (.cells (dA n G) T)) w.heap.size n G := by
  have hc : ∀ j, (w.alloc (.cells (dA n G) T)).cell? ⟨w.heap.size, 0 + j, none⟩ = (dL n G)[j]? := fun j => by rw [Nat.zero_add, World.cell?_alloc_new]; simp [dA]
  refine ⟨h, fun j v hv => (hc j).trans hv, fun j hj => ⟨by rw [hc, List.getElem?_eq_getElem (by rw [dL_len h]; exact hj)]; rfl, by simp [go_sem]⟩⟩
theorem Dif.set {w : World} {b : Nat} {n : Int} {G : List Int} (h : Dif w b n G) {p : Nat} (hp : p < 169) (x : Int) : Dif (w.setCell ⟨b, 1 + p, none⟩ (.int .i64 x)) b n (G.set p x) := by
  obtain ⟨u, hu⟩ := Option.isSome_iff_exists.1 (h.there (1 + p) (by omega)).1
  rw [Nat.zero_add] at hu
  refine ⟨by simpa using h.len, fun j v hv => ?_, fun j hj => ⟨?_, ?_⟩⟩
  · rw [Nat.zero_add]
    by_cases e : 1 + p = j
    · subst e
      rw [World.cell?_setCell_same _ _ _ hu]
      have : (dL n (G.set p x))[1 + p]? = some (.int .i64 x) := by
        rw [show 1 + p = p + 1 by omega]
        simp [dL, ints_get, h.len, hp]
      rw [this] at hv; exact hv
    · rw [World.cell?_setCell_other _ _ _ _ (fun e2 => e (congrArg Addr.off e2))]
      have : (dL n (G.set p x))[j]? = (dL n G)[j]? := by
        cases j with
        | zero => rfl
        | succ j => simp [dL, ints_get, show ¬ p = j by omega]
      rw [this] at hv
      have := h.range j v hv
      rwa [Nat.zero_add] at this
  · obtain ⟨v, hv⟩ := Option.isSome_iff_exists.1 (h.there j hj).1
    by_cases e : (⟨b, 1 + p, none⟩ : Addr) = ⟨b, 0 + j, none⟩
    · rw [← e, World.cell?_setCell_same _ _ _ hu]; rfl
    · rw [World.cell?_setCell_other _ _ _ _ e, hv]; rfl
  · rw [World.frozen?_setCell]; exact (h.there j hj).2
theorem get_of {G : List Int} {p : Nat} (h : p < G.length) : G[p]? = some (G.getD p 0) := by rw [List.getD_eq_getElem?_getD, List.getElem?_eq_getElem h]; rfl
theorem Dif.at {w : World} {b : Nat} {n : Int} {G : List Int} (h : Dif w b n G) {i j : Nat} {x : Int} (hi : i < 13) (hj : j < 13) (hx : G.getD (i * 13 + j) 0 = x) : w.cell? ⟨b, 1 + i * 13 + j, none⟩ = some (.int .i64 x) := by
  have := h.get (get_of (G := G) (p := i * 13 + j) (by rw [h.len]; omega))
  rw [← Nat.add_assoc, hx] at this
  exact this
theorem Dif.put {w : World} {b : Nat} {n : Int} {G : List Int} (h : Dif w b n G) {i j : Nat} (hi : i < 13) (hj : j < 13) (x : Int) : Dif (w.setCell ⟨b, 1 + i * 13 + j, none⟩ (.int .i64 x)) b n (G.set (i * 13 + j) x) := by
  have := h.set (p := i * 13 + j) (by omega) x
  rw [← Nat.add_assoc] at this
  exact this
theorem Dif.drewN {w : World} {b : Nat} {n : Int} {G : List Int} (h : Dif w b n G) (k : Nat) : Dif (w.drewN k) b n G := h.below ⟨rfl, rfl, rfl, Nat.le_refl _, fun _ _ => rfl⟩
theorem below_drewN {B : Nat} {w w' : World} (h : Below B w w') (k : Nat) : Below B w (w'.drewN k) := h.trans ⟨rfl, rfl, rfl, Nat.le_refl _, fun _ _ => rfl⟩
theorem Dif.load {w : World} {b : Nat} {n : Int} {G : List Int} (h : Dif w b n G) : (Instr.loadAt 80 (.pointer (some ⟨b, 0, none⟩))).run Tryz.prog w = .ok (.agg (dA n G)) w :=
  run_loadAt_mid w b 0 80 (dL n G) _ h.range Tryz.underlying80 rfl (by rw [dL_len h.len]; exact size64)
theorem Dif.loadVar {w : World} {b : Nat} {n : Int} {G : List Int} (h : Dif w b n G) : (loadVar 80 ⟨b, 0, none⟩).run Tryz.prog w = .ok (.agg (dA n G)) w :=
  run_loadVar_mid w b 0 80 (dL n G) _ h.range Tryz.underlying80 rfl (by rw [dL_len h.len]; exact size64)
theorem Dif.store {w : World} {b : Nat} {n n' : Int} {G G' : List Int} (h : Dif w b n G) (h' : G'.length = 169) : (Instr.storeAt 80 (.pointer (some ⟨b, 0, none⟩)) (.agg (dA n' G'))).run Tryz.prog w = .ok () (w.setCells b 0 (dL n' G')) :=
  run_storeAt_mid w b 0 80 (dA n' G') (by rw [dA_size h']; exact h.there) (by rw [dA_size h']; exact size64) (all_oneCell_toArray dL_one)
theorem Dif.stored {w : World} {b : Nat} {n n' : Int} {G G' : List Int} (h : Dif w b n G) (h' : G'.length = 169) : Dif (w.setCells b 0 (dL n' G')) b n' G' :=
  ⟨h', World.rangeAt_setCells_same w b 0 _ (by rw [dL_len h']; exact h.there), World.there_setCells h.there b 0 _⟩
theorem Below.setCells {n : Nat} {w w' : World} (h : Below n w w') {b : Nat} (hb : n ≤ b) : ∀ (vs : List Value) (o : Nat), Below n w (w'.setCells b o vs) := by
  intro vs
  induction vs generalizing w' with
  | nil => intro o; exact h
  | cons v r ih => intro o; exact ih (h.setCell (p := ⟨b, o, none⟩) hb v) (o + 1)

theorem some_ne {a b : Nat} (h : a ≠ b) : some a ≠ some b := fun e => h (Option.some.inj e)
theorem zc64 : Tryz.zeroCells80 = dA 0 zs := by kernel_rfl
theorem grown_setCell (w : World) (p : Addr) (v : Value) : w.grownBy (w.setCell p v) (some p.block) :=
  ⟨rfl, rfl, rfl, by simp [World.setCell], fun k _ hne => Below.heap_setCell _ _ _ _ (fun e => hne (by rw [e]))⟩
theorem grown_setCells (b : Nat) : ∀ (vs : List Value) (o : Nat) (w : World), w.grownBy (w.setCells b o vs) (some b)
  | [], _, w => World.grownBy.refl w _
  | v :: r, o, w => World.grownBy.trans (grown_setCell w ⟨b, o, none⟩ v) (grown_setCells b r (o + 1) _)
theorem Dif.grown {w w' : World} {b : Nat} {n : Int} {G : List Int} {row : Option Nat} (h : Dif w b n G) (hg : w.grownBy w' row) (hr : some b ≠ row) : Dif w' b n G := by
  have e := hg.block b h.lt hr
  exact ⟨h.len, fun j v hv => (World.cell?_of_block (w := w) (w' := w') (a := ⟨b, 0 + j, none⟩) e).trans (h.range j v hv), fun j hj => by
    rw [World.cell?_of_block (w := w) (w' := w') (a := ⟨b, 0 + j, none⟩) e, World.frozen?_of_block (w := w) (w' := w') (a := ⟨b, 0 + j, none⟩) e]; exact h.there j hj⟩
theorem results_cell {fn : Func} {p : Tmp} {ty : TypeId} (h : fn.results = #[.cell p ty]) (tmps : Array Value) (P : Program) (w : World) :
    (results fn tmps).run P w = ((asAddr (tmps.getD p undef)).run P w).andThen fun a w₁ => (loadVar ty a).run P w₁ := by
  simp only [results, h]
  simp [Sem.run_bind]
theorem ret64 {fn : Func} {p : Tmp} (h : fn.results = #[.cell p 80]) {R : Ending → World → Prop} {a : Act} {w : World} {b : Nat} {n : Int} {G : List Int} (hD : Dif w b n G) (hp : a.tmps.getD p undef = .pointer (some ⟨b, 0, none⟩)) (hd : a.defers = []) (hR : R (.returned (.agg (dA n G))) w) : bodyPost Tryz.prog fn R .ret a w := by
  refine bodyPost_ret (v := .agg (dA n G)) ?_ hd hR
  rw [results_cell h, hp]
  simp only [asAddr, Sem.run_pure, Result.andThen_ok, hD.loadVar]
theorem wp_load64 {ops : Array Oper} {rest : List Oper} {op : Oper} {a : Act} {w : World} {Q : Exit → Act → World → Prop} {x : Operand} {b : Nat} {n : Int} {G : List Int} (hD : Dif w b n G) (hgd : op.guard = none) (ho : op.op = .load 80 x)
    (hx : a.eval x = .pointer (some ⟨b, 0, none⟩)) (h : wpList Tryz.prog ops Q rest (a.put op.dst (.agg (dA n G))) w) : wpList Tryz.prog ops Q (op :: rest) a w :=
  wpList_load_mid hgd 80 x ho b 0 hx (dL n G) _ hD.range Tryz.underlying80 rfl (by rw [dL_len hD.len]; exact size64) h
theorem wp_store64 {ops : Array Oper} {rest : List Oper} {op : Oper} {a : Act} {w : World} {Q : Exit → Act → World → Prop} {x y : Operand} {b : Nat} {n n' : Int} {G G' : List Int} (hD : Dif w b n G) (h' : G'.length = 169) (hgd : op.guard = none) (ho : op.op = .store 80 x y)
    (hx : a.eval x = .pointer (some ⟨b, 0, none⟩)) (hy : a.eval y = .agg (dA n' G')) (h : ∀ w2, Dif w2 b n' G' → w.grownBy w2 (some b) → wpList Tryz.prog ops Q rest (a.put op.dst undef) w2) : wpList Tryz.prog ops Q (op :: rest) a w :=
  wpList_store_mid hgd 80 x y ho b 0 (dA n' G') hx hy (by rw [dA_size h']; exact hD.there) (by rw [dA_size h']; exact size64) (all_oneCell_toArray dL_one) (h _ (hD.stored h') (grown_setCells b _ 0 w))

theorem built64 (n : Int) : Tryz.prog.built 80 [(0, .int .i64 n)] = some (dA n zs) := by kernel_rfl
theorem wp_build64 {ops : Array Oper} {rest : List Oper} {op : Oper} {a : Act} {w : World} {Q : Exit → Act → World → Prop} {x : Operand} {n : Int} (hgd : op.guard = none) (ho : op.op = .build 80 #[(0, x)]) (hx : a.eval x = .int .i64 n)
    (h : wpList Tryz.prog ops Q rest (a.put op.dst (.agg (dA n zs))) w) : wpList Tryz.prog ops Q (op :: rest) a w :=
  wpList_plain hgd fun _ hK => by
    have hr := run_build (P := Tryz.prog) w 80 #[(0, .int .i64 n)] _ (built64 n)
    unfold Oper.wp execOp
    simp only [ho, hx, List.map_toArray, List.map_cons, List.map_nil, Sem.run_bind, Sem.run_pure, Result.andThen_ok, hr]
    exact hK _ _ h

theorem Dif.newz (w : World) : Dif (w.alloc (.cells Tryz.zeroCells80 80)) w.heap.size 0 zs := by rw [zc64]; exact Dif.new w zs_len 80

/-- Facts in a block. -/
def Fc (w : World) (b : Nat) (z : Int) (a : Option Addr) (n c : Nat) : Prop := w.cell? ⟨b, 0, none⟩ = some (.int .i64 z) ∧ w.cell? ⟨b, 1, none⟩ = some (.slice a n c)
theorem Fc.lt {w : World} {b : Nat} {z : Int} {a : Option Addr} {n c : Nat} (h : Fc w b z a n c) : b < w.heap.size := World.block_lt_of_cell? w _ h.1
theorem Fc.below {w w' : World} {b : Nat} {z : Int} {a : Option Addr} {n c : Nat} (h : Fc w b z a n c) (hb : Below w.heap.size w w') : Fc w' b z a n c :=
  ⟨(hb.cell (p := ⟨b, 0, none⟩) h.lt).trans h.1, (hb.cell (p := ⟨b, 1, none⟩) h.lt).trans h.2⟩
theorem Fc.alloc {w : World} {b : Nat} {z : Int} {a : Option Addr} {n c : Nat} (h : Fc w b z a n c) (o : Obj) : Fc (w.alloc o) b z a n c := h.below ((Below.refl _ _).alloc (Nat.le_refl _) o)
theorem Fc.grown {w w' : World} {b : Nat} {z : Int} {a : Option Addr} {n c : Nat} {row : Option Nat} (h : Fc w b z a n c) (hg : w.grownBy w' row) (hr : some b ≠ row) : Fc w' b z a n c :=
  ⟨(hg.cell_far ⟨b, 0, none⟩ h.lt hr).trans h.1, (hg.cell_far ⟨b, 1, none⟩ h.lt hr).trans h.2⟩
theorem Fc.new (w : World) (z : Int) (a : Option Addr) (n c : Nat) (T : TypeId) : Fc (w.alloc (.cells #[.int .i64 z, .slice a n c] T)) w.heap.size z a n c := by
  constructor <;> simp [go_sem]

/-- A block for facts that are to be answered. -/
def Fz (w : World) (b : Nat) : Prop := Fc w b 0 none 0 0 ∧ w.frozen? ⟨b, 0, none⟩ = false ∧ w.frozen? ⟨b, 1, none⟩ = false
theorem Fz.lt {w : World} {b : Nat} (h : Fz w b) : b < w.heap.size := h.1.lt
theorem Fz.below {w w' : World} {b : Nat} (h : Fz w b) (hb : Below w.heap.size w w') : Fz w' b :=
  ⟨h.1.below hb, (hb.frozen (p := ⟨b, 0, none⟩) h.lt).trans h.2.1, (hb.frozen (p := ⟨b, 1, none⟩) h.lt).trans h.2.2⟩
theorem Fz.alloc {w : World} {b : Nat} (h : Fz w b) (o : Obj) : Fz (w.alloc o) b := h.below ((Below.refl _ _).alloc (Nat.le_refl _) o)
theorem Fz.grown {w w' : World} {b : Nat} {row : Option Nat} (h : Fz w b) (hg : w.grownBy w' row) (hr : some b ≠ row) : Fz w' b :=
  ⟨h.1.grown hg hr, (hg.frozen_far ⟨b, 0, none⟩ h.lt hr).trans h.2.1, (hg.frozen_far ⟨b, 1, none⟩ h.lt hr).trans h.2.2⟩
theorem Fz.new (w : World) : Fz (w.alloc (.cells #[.int .i64 0, .slice none 0 0] 38)) w.heap.size := ⟨Fc.new w 0 none 0 0 38, by simp [go_sem], by simp [go_sem]⟩
/-- What is answered: facts of their own memory. -/
def Gives (w w' : World) (e : Ending) (z : Int) (l : List Int) : Prop := ∃ ao cap, e = .returned (.agg #[.int .i64 z, .slice ao l.length cap]) ∧ OwnI w' w.heap.size (.slice ao l.length cap) l ∧ Below w.heap.size w w'

end Go.Proofs.YtihpajiololfoaaGreat.Q
namespace Go.Proofs.YtihpajiololfoaaGreat.Q
open Go.RowKit

theorem cap_same {i j : Nat} (h : i = j) : capT i j = 0 := if_pos h
theorem cap_zero {i j : Nat} (h : ¬ i = j) (h0 : i = 0 ∨ j = 0) : capT i j = 1000000 := by unfold capT; rw [if_neg h, if_pos h0]
theorem cap_two {i j : Nat} (h : ¬ i = j) (h0 : ¬ i = 0) (h1 : ¬ j = 0) : capT i j = 2000000 := by unfold capT; rw [if_neg h, if_neg (fun e => e.elim h0 h1)]
theorem beq_cast (i j : Nat) : ((i : Int) == (j : Int)) = decide (i = j) := by
  by_cases h : i = j
  · subst h; simp
  · rw [beq_eq_false_iff_ne.2 (by omega), decide_eq_false h]
theorem beq_zero (i : Nat) : ((i : Int) == 0) = decide (i = 0) := beq_cast i 0
set_option maxRecDepth 100000 in
set_option maxHeartbeats 400000 in
theorem iCap_any (i j : Nat) (w : World) : Calls Tryz.prog 151 #[.int .i64 i, .int .i64 j] w fun e w' => e = .returned (.int .i64 (capT i j)) ∧ w = w' := by
  by_cases h : i = j
  · have e := mkHid (cap_same h)
    have hb : ((i : Int) == (j : Int)) = true := by rw [beq_cast]; exact decide_eq_true h
    clear h
    go_enter Tryz.func151, Tryz.ntmps151
    go_wp2
    go_ret
    exact ⟨ret_int e.out.symm, rfl⟩
  · have hb : ((i : Int) == (j : Int)) = false := by rw [beq_cast]; exact decide_eq_false h
    by_cases h0 : i = 0
    · have e := mkHid (cap_zero h (.inl h0))
      have hb0 : ((i : Int) == 0) = true := by rw [beq_zero]; exact decide_eq_true h0
      clear h h0
      go_enter Tryz.func151, Tryz.ntmps151
      go_wp2
      go_ret
      exact ⟨ret_int e.out.symm, rfl⟩
    · have hb0 : ((i : Int) == 0) = false := by rw [beq_zero]; exact decide_eq_false h0
      by_cases h1 : j = 0
      · have e := mkHid (cap_zero h (.inr h1))
        have hb1 : ((j : Int) == 0) = true := by rw [beq_zero]; exact decide_eq_true h1
        clear h h0 h1
        go_enter Tryz.func151, Tryz.ntmps151
        go_wp2
        go_ret
        exact ⟨ret_int e.out.symm, rfl⟩
      · have e := mkHid (cap_two h h0 h1)
        have hb1 : ((j : Int) == 0) = false := by rw [beq_zero]; exact decide_eq_false h1
        clear h h0 h1
        go_enter Tryz.func151, Tryz.ntmps151
        go_wp2
        go_ret
        exact ⟨ret_int e.out.symm, rfl⟩
set_option maxRecDepth 100000 in
set_option maxHeartbeats 400000 in
theorem sCap_any (i j : Nat) (w : World) : Calls Tryz.prog 150 #[.int .i64 i, .int .i64 j] w fun e w' => e = .returned (.int .i64 (capT i j)) ∧ w = w' := by
  by_cases h : i = j
  · have e := mkHid (cap_same h)
    have hb : ((i : Int) == (j : Int)) = true := by rw [beq_cast]; exact decide_eq_true h
    clear h
    go_enter Tryz.func150, Tryz.ntmps150
    go_wp2
    go_ret
    exact ⟨ret_int e.out.symm, rfl⟩
  · have hb : ((i : Int) == (j : Int)) = false := by rw [beq_cast]; exact decide_eq_false h
    by_cases h0 : i = 0
    · have e := mkHid (cap_zero h (.inl h0))
      have hb0 : ((i : Int) == 0) = true := by rw [beq_zero]; exact decide_eq_true h0
      clear h h0
      go_enter Tryz.func150, Tryz.ntmps150
      go_wp2
      go_ret
      exact ⟨ret_int e.out.symm, rfl⟩
    · have hb0 : ((i : Int) == 0) = false := by rw [beq_zero]; exact decide_eq_false h0
      by_cases h1 : j = 0
      · have e := mkHid (cap_zero h (.inr h1))
        have hb1 : ((j : Int) == 0) = true := by rw [beq_zero]; exact decide_eq_true h1
        clear h h0 h1
        go_enter Tryz.func150, Tryz.ntmps150
        go_wp2
        go_ret
        exact ⟨ret_int e.out.symm, rfl⟩
      · have e := mkHid (cap_two h h0 h1)
        have hb1 : ((j : Int) == 0) = false := by rw [beq_zero]; exact decide_eq_false h1
        clear h h0 h1
        go_enter Tryz.func150, Tryz.ntmps150
        go_wp2
        go_ret
        exact ⟨ret_int e.out.symm, rfl⟩
/-- The first k numbers are within their bounds. -/
def Sure (n : Nat) (l : List Int) (k : Nat) : Prop := ∀ p, p < k → entB (p / n) (p % n) (l.getD p 0) = true
theorem ok_sure {n : Nat} {l : List Int} (h1 : 1 ≤ n) (h2 : n ≤ 13) (hl : l.length = n * n) (h : Sure n l (n * n)) : okF n l = true := by
  unfold okF
  rw [Bool.and_eq_true, decide_eq_true_eq, List.all_eq_true]
  refine ⟨⟨by omega, by omega, by rw [hl]; simp⟩, fun p hp => ?_⟩
  have := h p (by rw [← hl]; exact List.mem_range.1 hp)
  simpa using this
theorem ok_unsure {n : Nat} {l : List Int} {p : Nat} (hp : p < l.length) (h : entB (p / n) (p % n) (l.getD p 0) = false) : okF n l = false := by
  cases hh : okF n l
  · rfl
  · unfold okF at hh
    rw [Bool.and_eq_true, List.all_eq_true] at hh
    have := hh.2 p (List.mem_range.2 hp)
    rw [show ((n : Int)).toNat = n by simp, h] at this
    cases this
theorem ok_size {z : Int} {l : List Int} (h : ¬ (1 ≤ z ∧ z ≤ 13)) : okF z l = false := by
  cases hh : okF z l
  · rfl
  · obtain ⟨n, rfl, h1, h2, _⟩ := ok_of hh
    exact absurd ⟨by omega, by omega⟩ h
theorem ok_len {n : Nat} {l : List Int} (h : ¬ l.length = n * n) : okF n l = false := by
  cases hh : okF n l
  · rfl
  · obtain ⟨m, e, _, _, h3, _⟩ := ok_of hh
    have : n = m := by omega
    subst this
    exact absurd h3 h
theorem Sure.next {n : Nat} {l : List Int} {k : Nat} (h : Sure n l k) (hk : entB (k / n) (k % n) (l.getD k 0) = true) : Sure n l (k + 1) := fun p hp => by
  by_cases e : p = k
  · subst e; exact hk
  · exact h p (by omega)
theorem two_new (w : World) (z : Int) (a : Option Addr) (n c : Nat) (T : TypeId) : (w.alloc (.cells #[.int .i64 z, .slice a n c] T)).cell? ⟨w.heap.size, 0, none⟩ = some (.int .i64 z) ∧ (w.alloc (.cells #[.int .i64 z, .slice a n c] T)).cell? ⟨w.heap.size, 1, none⟩ = some (.slice a n c) := by
  constructor <;> simp [go_sem]
end Go.Proofs.YtihpajiololfoaaGreat.Q
namespace Go.Proofs.YtihpajiololfoaaGreat.Q
open Go.RowKit

theorem IntsAt.get' {w : World} {a : Option Addr} {l : List Int} (h : IntsAt w a l) {k : Nat} (hk : k < l.length) : ∃ b o, a = some ⟨b, o, none⟩ ∧ w.cell? ⟨b, o + k, none⟩ = some (.int .i64 (l.getD k 0)) := by
  rcases h with h | ⟨b, o, e, h⟩
  · subst h; simp at hk
  · exact ⟨b, o, e, h k _ (by rw [List.getD_eq_getElem?_getD, List.getElem?_eq_getElem hk]; rfl)⟩
theorem quo_nat (k n : Nat) (hk : k ≤ 1000) : wrap64 ((k : Int) / (n : Int)) = ((k / n : Nat) : Int) := by
  rw [← Int.natCast_ediv]
  have : k / n ≤ k := Nat.div_le_self k n
  generalize k / n = q at this
  exact IntWalk.wrap64_in _ (by omega)
theorem rem_nat (k n : Nat) : (k : Int).tmod n = ((k % n : Nat) : Int) := by simp [Int.tmod_eq_emod_of_nonneg]
theorem ent_far {i j : Nat} {x : Int} (h : capT i j < x) : entB i j x = false := decide_eq_false (fun e => by omega)
theorem ent_low {i j : Nat} {x : Int} (h : x < -2000000) : entB i j x = false := decide_eq_false (fun e => by omega)
theorem ent_same {i j : Nat} {x : Int} (h : i = j) (hx : ¬ x = 0) : entB i j x = false := decide_eq_false (fun e => e.2.2.elim (fun h2 => h2 h) hx)
theorem ent_ok {i j : Nat} {x : Int} (h1 : ¬ capT i j < x) (h2 : ¬ x < -2000000) (h3 : ¬ i = j ∨ x = 0) : entB i j x = true := decide_eq_true ⟨by omega, by omega, h3⟩
theorem wrap_sq {n : Nat} (h : n ≤ 13) : IntKind.i64.wrap ((n : Int) * (n : Int)) = ((n * n : Nat) : Int) := by
  have := sq_le h
  rw [show (n : Int) * (n : Int) = ((n * n : Nat) : Int) by simp]
  exact IntWalk.i64_in _ (by omega)
set_option maxRecDepth 100000 in
set_option maxHeartbeats 1600000 in
theorem iOk_any (z : Int) (l : List Int) (a : Option Addr) (c : Nat) (w : World) (hl : IntsAt w a l) : Calls Tryz.prog 128 #[.agg #[.int .i64 z, .slice a l.length c]] w fun e w' => e = .returned (.bool (okF z l)) ∧ Below w.heap.size w w' := by
  by_cases hz : 1 ≤ z ∧ z ≤ 13
  · have hbt : btw z 1 13 = true := decide_eq_true hz
    obtain ⟨n, rfl⟩ : ∃ n : Nat, z = n := ⟨z.toNat, by omega⟩
    have hsq := wrap_sq (n := n) (by omega)
    have hqq := sq_le (n := n) (by omega)
    have hq1 := sq_pos (n := n) (by omega)
    have hn0 : ¬ ((n : Int) = 0) := by omega
    have hn1 : 1 ≤ n := by omega
    have hn2 : n ≤ 13 := by omega
    clear hz
    by_cases hll : l.length = n * n
    · have HS : Hid (∀ (b : Bool), (∀ p, p < n * n → entB (p / n) (p % n) (l.getD p 0) = true) → okF n l = true) := mkHid fun _ h => ok_sure hn1 hn2 hll h
      have HU : Hid (∀ p, p < n * n → entB (p / n) (p % n) (l.getD p 0) = false → okF n l = false) := mkHid fun p hp h => ok_unsure (by omega) h
      have HL := mkHid hl
      have HLL := mkHid hll
      obtain ⟨q, hqe⟩ : ∃ q, n * n = q := ⟨_, rfl⟩
      rw [hqe] at hsq hqq hq1
      rw [hll, hqe]
      have HQ := mkHid hqe
      clear hl hqe hll
      have B0 := mkHid ((Below.refl w.heap.size w).alloc (Nat.le_refl _) (.cells #[.int .i64 n, .slice a q c] 38))
      have T0 := mkHid (two_new w n a q c 38)
      go_enter Tryz.func128, Tryz.ntmps128
      go_wp2_with (first | (go_at_call 129; refine (isBetween_any _ _ _ _).mono ?_; rintro e w' ⟨rfl, rfl⟩) | (go_at_call 151; refine (iCap_any _ _ _).mono ?_; rintro e w' ⟨rfl, rfl⟩))
      go_loopg [25] q (fun g s wr => ∃ (k : Nat), k + g = q ∧ s = .int .i64 k ∧ Sure n l k ∧ (wr.cell? ⟨w.heap.size, 0, none⟩ = some (.int .i64 n)) ∧ Below w.heap.size w wr)
      case atStart => exact ⟨0, by omega, rfl, fun p hp => by omega, T0.out.1, B0.out⟩
      case round =>
        obtain ⟨k, hkg, rfl, hsu, p0, hB⟩ := hrel
        have HSU := mkHid hsu
        have HB := mkHid hB
        clear hsu hB B0 T0
        cases gk with
        | zero =>
          have hlt : ¬ ((k : Int) < (q : Int)) := by omega
          have e : Hid (okF n l = true) := mkHid (HS.out true (fun p hp => HSU.out p (by have := HQ.out; omega)))
          go_wp2
          go_ret
          exact ⟨ret_bool e.out.symm, HB.out⟩
        | succ g =>
          have hlt : (k : Int) < (q : Int) := by omega
          obtain ⟨b, o, rfl, c0⟩ := IntsAt.get' (HL.out.below HB.out) (k := k) (by have := HQ.out; have := HLL.out; omega)
          obtain ⟨x, hx⟩ : ∃ x, l.getD k 0 = x := ⟨_, rfl⟩
          rw [hx] at c0
          have hqu := quo_nat k n (by omega)
          have hre := rem_nat k n
          obtain ⟨i, hi⟩ : ∃ i, k / n = i := ⟨_, rfl⟩
          obtain ⟨j, hj⟩ : ∃ j, k % n = j := ⟨_, rfl⟩
          rw [hi] at hqu
          rw [hj] at hre
          obtain ⟨cp, hcp⟩ : ∃ cp, capT i j = cp := ⟨_, rfl⟩
          have HX := mkHid hx
          have HI := mkHid hi
          have HJ := mkHid hj
          have hcap : ∀ v, Calls Tryz.prog 151 #[.int .i64 i, .int .i64 j] v fun e w' => e = .returned (.int .i64 cp) ∧ v = w' := fun v => by rw [← hcp]; exact iCap_any i j v
          have HC := mkHid hcp
          have HCA := mkHid hcap
          clear hx hi hj hcp hcap
          have k0 : (0 : Int) ≤ (k : Int) := by omega
          have HUK : Hid (entB i j x = false → okF n l = false) := mkHid fun h => HU.out k (by have := HQ.out; omega) (by rw [HI.out, HJ.out, HX.out]; exact h)
          have HSK : Hid (entB i j x = true → Sure n l (k + 1)) := mkHid fun h => HSU.out.next (by rw [HI.out, HJ.out, HX.out]; exact h)
          by_cases h1 : cp < x
          · have e := mkHid (ent_far (i := i) (j := j) (x := x) (by rw [HC.out]; exact h1))
            go_wp2_with fail
            go_quiet (fail)
            go_wp2_with (first | (go_at_call 151; refine (HCA.out _).mono ?_; rintro e w' ⟨rfl, rfl⟩))
            go_ret
            exact ⟨ret_bool (HUK.out e.out).symm, HB.out.trans ⟨rfl, rfl, rfl, Nat.le_refl _, fun _ _ => rfl⟩⟩
          · by_cases h2 : x < -2000000
            · have e := mkHid (ent_low (i := i) (j := j) h2)
              go_wp2_with fail
              go_quiet (fail)
              go_wp2_with (first | (go_at_call 151; refine (HCA.out _).mono ?_; rintro e w' ⟨rfl, rfl⟩))
              go_ret
              exact ⟨ret_bool (HUK.out e.out).symm, HB.out.trans ⟨rfl, rfl, rfl, Nat.le_refl _, fun _ _ => rfl⟩⟩
            · by_cases h3 : i = j
              · have hb3 : ((i : Int) == (j : Int)) = true := by rw [beq_cast]; exact decide_eq_true h3
                by_cases h4 : x = 0
                · have e := mkHid (ent_ok (i := i) (j := j) (x := x) (by rw [HC.out]; exact h1) h2 (.inr h4))
                  have hb4 : (x != 0) = false := by simp [h4]
                  clear h3 h4
                  go_wp2_with fail
                  go_quiet (fail)
                  go_wp2_with (first | (go_at_call 151; refine (HCA.out _).mono ?_; rintro e w' ⟨rfl, rfl⟩))
                  go_roundg g
                  case measure => omega
                  case rel => exact ⟨k + 1, by omega, by go_num, HSK.out e.out, p0, HB.out.trans ⟨rfl, rfl, rfl, Nat.le_refl _, fun _ _ => rfl⟩⟩
                · have e := mkHid (ent_same h3 h4)
                  have hb4 : (x != 0) = true := by simp [h4]
                  clear h3 h4
                  go_wp2_with fail
                  go_quiet (fail)
                  go_wp2_with (first | (go_at_call 151; refine (HCA.out _).mono ?_; rintro e w' ⟨rfl, rfl⟩))
                  go_ret
                  exact ⟨ret_bool (HUK.out e.out).symm, HB.out.trans ⟨rfl, rfl, rfl, Nat.le_refl _, fun _ _ => rfl⟩⟩
              · have hb3 : ((i : Int) == (j : Int)) = false := by rw [beq_cast]; exact decide_eq_false h3
                have e := mkHid (ent_ok (x := x) (by rw [HC.out]; exact h1) h2 (.inl h3))
                clear h3
                go_wp2_with fail
                go_quiet (fail)
                go_wp2_with (first | (go_at_call 151; refine (HCA.out _).mono ?_; rintro e w' ⟨rfl, rfl⟩))
                go_roundg g
                case measure => omega
                case rel => exact ⟨k + 1, by omega, by go_num, HSK.out e.out, p0, HB.out.trans ⟨rfl, rfl, rfl, Nat.le_refl _, fun _ _ => rfl⟩⟩
    · have e := mkHid (ok_len hll)
      have hne : (((l.length : Nat) : Int) != ((n * n : Nat) : Int)) = true := by simp; omega
      obtain ⟨q, hqe⟩ : ∃ q, n * n = q := ⟨_, rfl⟩
      rw [hqe] at hsq hne
      clear hll hqe hqq hq1
      go_enter Tryz.func128, Tryz.ntmps128
      go_wp2_with (first | (go_at_call 129; refine (isBetween_any _ _ _ _).mono ?_; rintro e w' ⟨rfl, rfl⟩) | (go_at_call 151; refine (iCap_any _ _ _).mono ?_; rintro e w' ⟨rfl, rfl⟩))
      go_ret
      exact ⟨ret_bool e.out.symm, (Below.refl _ _).alloc (Nat.le_refl _) _⟩
  · have hbt : btw z 1 13 = false := decide_eq_false hz
    have e := mkHid (ok_size (l := l) hz)
    clear hz
    go_enter Tryz.func128, Tryz.ntmps128
    go_wp2_with (first | (go_at_call 129; refine (isBetween_any _ _ _ _).mono ?_; rintro e w' ⟨rfl, rfl⟩) | (go_at_call 151; refine (iCap_any _ _ _).mono ?_; rintro e w' ⟨rfl, rfl⟩))
    go_ret
    exact ⟨ret_bool e.out.symm, (Below.refl _ _).alloc (Nat.le_refl _) _⟩
end Go.Proofs.YtihpajiololfoaaGreat.Q
