/-
  WHOLE TABLES BY VALUE, in memory; CONTRACTS of the small functions on them.
-/
import Derived.Test.YtmaejdomlggopaaOw
import Derived.Test.YtmaejdomlggopaaFk
import Derived.Test.YtmaejdomlggopaaEq
import Derived.Deep.MidRow
import Derived.Deep.WholeRow
import Derived.Deep.LoopGhost
namespace Go.Proofs.Ytmaejdomlggopaa
open Go.RowKit

def dL (n : Int) (G : List Int) : List Value := .int .i64 n :: ints G
def dA (n : Int) (G : List Int) : Array Value := (dL n G).toArray
def zs : List Int := List.replicate 169 0
theorem zs_len : zs.length = 169 := List.length_replicate
theorem info64 : (Try.prog.info? 73).map (fun i => (i.zero, i.size)) = some (some (.agg (dA 0 zs)), 170) := by kernel_rfl
theorem zero64 (w : World) : (zeroValue 73).run Try.prog w = .ok (.agg (dA 0 zs)) w := (zero_of_info info64).1 w
theorem size64 : (Try.prog.info? 73).map (·.size) = some 170 := (zero_of_info info64).2
theorem dA0 (n : Int) (G : List Int) : (dA n G)[0]? = some (.int .i64 n) := rfl
theorem dL_len {n : Int} {G : List Int} (h : G.length = 169) : (dL n G).length = 170 := by simp [dL, ints_len, h]
theorem dA_size {n : Int} {G : List Int} (h : G.length = 169) : (dA n G).size = 170 := by simp [dA, dL_len h]
theorem dL_one {n : Int} {G : List Int} : ∀ v ∈ dL n G, v.oneCell' = true := by
  intro v hv
  simp only [dL, ints, List.mem_cons, List.mem_map] at hv
  rcases hv with rfl | ⟨x, _, rfl⟩ <;> rfl
/-- A table in a block that may be written. -/
structure Dif (w : World) (b : Nat) (n : Int) (G : List Int) : Prop where
  len : G.length = 169
  range : w.rangeAt b 0 (dL n G)
  there : w.there b 0 170
theorem Dif.size {w : World} {b : Nat} {n : Int} {G : List Int} (h : Dif w b n G) : w.cell? ⟨b, 0, none⟩ = some (.int .i64 n) := by simpa using h.range 0 _ rfl
theorem Dif.lt {w : World} {b : Nat} {n : Int} {G : List Int} (h : Dif w b n G) : b < w.heap.size := World.block_lt_of_cell? w _ h.size
theorem Dif.get {w : World} {b : Nat} {n : Int} {G : List Int} (h : Dif w b n G) {p : Nat} {x : Int} (hx : G[p]? = some x) : w.cell? ⟨b, 1 + p, none⟩ = some (.int .i64 x) := by
  have := h.range (p + 1) (.int .i64 x) (by simp [dL, ints_get, hx])
  rw [show 0 + (p + 1) = 1 + p by omega] at this
  exact this
theorem Dif.free {w : World} {b : Nat} {n : Int} {G : List Int} (h : Dif w b n G) {o : Nat} (ho : o < 170) : w.frozen? ⟨b, o, none⟩ = false := by simpa using (h.there o ho).2
theorem Dif.below {w w' : World} {b : Nat} {n : Int} {G : List Int} (h : Dif w b n G) (hb : Below w.heap.size w w') : Dif w' b n G :=
  ⟨h.len, fun j v hv => (hb.cell (p := ⟨b, 0 + j, none⟩) h.lt).trans (h.range j v hv), fun j hj => by rw [hb.cell (p := ⟨b, 0 + j, none⟩) h.lt, hb.frozen (p := ⟨b, 0 + j, none⟩) h.lt]; exact h.there j hj⟩
theorem Dif.drew {w : World} {b : Nat} {n : Int} {G : List Int} (h : Dif w b n G) : Dif w.drew b n G := h.below (Below.refl _ _).drew
theorem Dif.alloc {w : World} {b : Nat} {n : Int} {G : List Int} (h : Dif w b n G) (o : Obj) : Dif (w.alloc o) b n G := h.below ((Below.refl _ _).alloc (Nat.le_refl _) o)
theorem Dif.new (w : World) {n : Int} {G : List Int} (h : G.length = 169) (T : TypeId) : Dif (w.alloc (.cells (dA n G) T)) w.heap.size n G := by
  have hc : ∀ j, (w.alloc (.cells (dA n G) T)).cell? ⟨w.heap.size, 0 + j, none⟩ = (dL n G)[j]? := fun j => by rw [Nat.zero_add, World.cell?_alloc_new]; simp [dA]
  refine ⟨h, fun j v hv => (hc j).trans hv, fun j hj => ⟨by rw [hc, List.getElem?_eq_getElem (by rw [dL_len h]; exact hj)]; rfl, by simp [go_sem]⟩⟩
theorem Dif.set {w : World} {b : Nat} {n : Int} {G : List Int} (h : Dif w b n G) {p : Nat} (hp : p < 169) (x : Int) : Dif (w.setCell ⟨b, 1 + p, none⟩ (.int .i64 x)) b n (G.set p x) := by
  obtain ⟨u, hu⟩ := Option.isSome_iff_exists.1 (h.there (1 + p) (by omega)).1
  rw [Nat.zero_add] at hu
  refine ⟨by simpa using h.len, fun j v hv => ?_, fun j hj => ⟨?_, ?_⟩⟩
  · rw [Nat.zero_add]
    by_cases e : 1 + p = j
    · subst e
      rw [World.cell?_setCell_same _ _ _ hu]
      have : (dL n (G.set p x))[1 + p]? = some (.int .i64 x) := by
        rw [show 1 + p = p + 1 by omega]
        simp [dL, ints_get, h.len, hp]
      rw [this] at hv; exact hv
    · rw [World.cell?_setCell_other _ _ _ _ (fun e2 => e (congrArg Addr.off e2))]
      have : (dL n (G.set p x))[j]? = (dL n G)[j]? := by
        cases j with
        | zero => rfl
        | succ j => simp [dL, ints_get, show ¬ p = j by omega]
      rw [this] at hv
      have := h.range j v hv
      rwa [Nat.zero_add] at this
  · obtain ⟨v, hv⟩ := Option.isSome_iff_exists.1 (h.there j hj).1
    by_cases e : (⟨b, 1 + p, none⟩ : Addr) = ⟨b, 0 + j, none⟩
    · rw [← e, World.cell?_setCell_same _ _ _ hu]; rfl
    · rw [World.cell?_setCell_other _ _ _ _ e, hv]; rfl
  · rw [World.frozen?_setCell]; exact (h.there j hj).2
theorem get_of {G : List Int} {p : Nat} (h : p < G.length) : G[p]? = some (G.getD p 0) := by rw [List.getD_eq_getElem?_getD, List.getElem?_eq_getElem h]; rfl
theorem Dif.at {w : World} {b : Nat} {n : Int} {G : List Int} (h : Dif w b n G) {i j : Nat} {x : Int} (hi : i < 13) (hj : j < 13) (hx : G.getD (i * 13 + j) 0 = x) : w.cell? ⟨b, 1 + i * 13 + j, none⟩ = some (.int .i64 x) := by
  have := h.get (get_of (G := G) (p := i * 13 + j) (by rw [h.len]; omega))
  rw [← Nat.add_assoc, hx] at this
  exact this
theorem Dif.put {w : World} {b : Nat} {n : Int} {G : List Int} (h : Dif w b n G) {i j : Nat} (hi : i < 13) (hj : j < 13) (x : Int) : Dif (w.setCell ⟨b, 1 + i * 13 + j, none⟩ (.int .i64 x)) b n (G.set (i * 13 + j) x) := by
  have := h.set (p := i * 13 + j) (by omega) x
  rw [← Nat.add_assoc] at this
  exact this
theorem Dif.drewN {w : World} {b : Nat} {n : Int} {G : List Int} (h : Dif w b n G) (k : Nat) : Dif (w.drewN k) b n G := h.below ⟨rfl, rfl, rfl, Nat.le_refl _, fun _ _ => rfl⟩
theorem below_drewN {B : Nat} {w w' : World} (h : Below B w w') (k : Nat) : Below B w (w'.drewN k) := h.trans ⟨rfl, rfl, rfl, Nat.le_refl _, fun _ _ => rfl⟩
theorem Dif.load {w : World} {b : Nat} {n : Int} {G : List Int} (h : Dif w b n G) : (Instr.loadAt 73 (.pointer (some ⟨b, 0, none⟩))).run Try.prog w = .ok (.agg (dA n G)) w :=
  run_loadAt_mid w b 0 73 (dL n G) _ h.range Try.underlying73 rfl (by rw [dL_len h.len]; exact size64)
theorem Dif.loadVar {w : World} {b : Nat} {n : Int} {G : List Int} (h : Dif w b n G) : (loadVar 73 ⟨b, 0, none⟩).run Try.prog w = .ok (.agg (dA n G)) w :=
  run_loadVar_mid w b 0 73 (dL n G) _ h.range Try.underlying73 rfl (by rw [dL_len h.len]; exact size64)
theorem Dif.store {w : World} {b : Nat} {n n' : Int} {G G' : List Int} (h : Dif w b n G) (h' : G'.length = 169) : (Instr.storeAt 73 (.pointer (some ⟨b, 0, none⟩)) (.agg (dA n' G'))).run Try.prog w = .ok () (w.setCells b 0 (dL n' G')) :=
  run_storeAt_mid w b 0 73 (dA n' G') (by rw [dA_size h']; exact h.there) (by rw [dA_size h']; exact size64) (all_oneCell_toArray dL_one)
theorem Dif.stored {w : World} {b : Nat} {n n' : Int} {G G' : List Int} (h : Dif w b n G) (h' : G'.length = 169) : Dif (w.setCells b 0 (dL n' G')) b n' G' :=
  ⟨h', World.rangeAt_setCells_same w b 0 _ (by rw [dL_len h']; exact h.there), World.there_setCells h.there b 0 _⟩
theorem Below.setCells {n : Nat} {w w' : World} (h : Below n w w') {b : Nat} (hb : n ≤ b) : ∀ (vs : List Value) (o : Nat), Below n w (w'.setCells b o vs) := by
  intro vs
  induction vs generalizing w' with
  | nil => intro o; exact h
  | cons v r ih => intro o; exact ih (h.setCell (p := ⟨b, o, none⟩) hb v) (o + 1)

theorem some_ne {a b : Nat} (h : a ≠ b) : some a ≠ some b := fun e => h (Option.some.inj e)
theorem zc64 : Try.zeroCells73 = dA 0 zs := by kernel_rfl
theorem grown_setCell (w : World) (p : Addr) (v : Value) : w.grownBy (w.setCell p v) (some p.block) :=
  ⟨rfl, rfl, rfl, by simp [World.setCell], fun k _ hne => Below.heap_setCell _ _ _ _ (fun e => hne (by rw [e]))⟩
theorem grown_setCells (b : Nat) : ∀ (vs : List Value) (o : Nat) (w : World), w.grownBy (w.setCells b o vs) (some b)
  | [], _, w => World.grownBy.refl w _
  | v :: r, o, w => World.grownBy.trans (grown_setCell w ⟨b, o, none⟩ v) (grown_setCells b r (o + 1) _)
theorem Dif.grown {w w' : World} {b : Nat} {n : Int} {G : List Int} {row : Option Nat} (h : Dif w b n G) (hg : w.grownBy w' row) (hr : some b ≠ row) : Dif w' b n G := by
  have e := hg.block b h.lt hr
  exact ⟨h.len, fun j v hv => (World.cell?_of_block (w := w) (w' := w') (a := ⟨b, 0 + j, none⟩) e).trans (h.range j v hv), fun j hj => by
    rw [World.cell?_of_block (w := w) (w' := w') (a := ⟨b, 0 + j, none⟩) e, World.frozen?_of_block (w := w) (w' := w') (a := ⟨b, 0 + j, none⟩) e]; exact h.there j hj⟩
theorem results_cell {fn : Func} {p : Tmp} {ty : TypeId} (h : fn.results = #[.cell p ty]) (tmps : Array Value) (P : Program) (w : World) :
    (results fn tmps).run P w = ((asAddr (tmps.getD p undef)).run P w).andThen fun a w₁ => (loadVar ty a).run P w₁ := by
  simp only [results, h]
  simp [Sem.run_bind]
theorem ret64 {fn : Func} {p : Tmp} (h : fn.results = #[.cell p 73]) {R : Ending → World → Prop} {a : Act} {w : World} {b : Nat} {n : Int} {G : List Int} (hD : Dif w b n G) (hp : a.tmps.getD p undef = .pointer (some ⟨b, 0, none⟩)) (hd : a.defers = []) (hR : R (.returned (.agg (dA n G))) w) : bodyPost Try.prog fn R .ret a w := by
  refine bodyPost_ret (v := .agg (dA n G)) ?_ hd hR
  rw [results_cell h, hp]
  simp only [asAddr, Sem.run_pure, Result.andThen_ok, hD.loadVar]
theorem wp_load64 {ops : Array Oper} {rest : List Oper} {op : Oper} {a : Act} {w : World} {Q : Exit → Act → World → Prop} {x : Operand} {b : Nat} {n : Int} {G : List Int} (hD : Dif w b n G) (hgd : op.guard = none) (ho : op.op = .load 73 x)
    (hx : a.eval x = .pointer (some ⟨b, 0, none⟩)) (h : wpList Try.prog ops Q rest (a.put op.dst (.agg (dA n G))) w) : wpList Try.prog ops Q (op :: rest) a w :=
  wpList_load_mid hgd 73 x ho b 0 hx (dL n G) _ hD.range Try.underlying73 rfl (by rw [dL_len hD.len]; exact size64) h
theorem wp_store64 {ops : Array Oper} {rest : List Oper} {op : Oper} {a : Act} {w : World} {Q : Exit → Act → World → Prop} {x y : Operand} {b : Nat} {n n' : Int} {G G' : List Int} (hD : Dif w b n G) (h' : G'.length = 169) (hgd : op.guard = none) (ho : op.op = .store 73 x y)
    (hx : a.eval x = .pointer (some ⟨b, 0, none⟩)) (hy : a.eval y = .agg (dA n' G')) (h : ∀ w2, Dif w2 b n' G' → w.grownBy w2 (some b) → wpList Try.prog ops Q rest (a.put op.dst undef) w2) : wpList Try.prog ops Q (op :: rest) a w :=
  wpList_store_mid hgd 73 x y ho b 0 (dA n' G') hx hy (by rw [dA_size h']; exact hD.there) (by rw [dA_size h']; exact size64) (all_oneCell_toArray dL_one) (h _ (hD.stored h') (grown_setCells b _ 0 w))

theorem built64 (n : Int) : Try.prog.built 73 [(0, .int .i64 n)] = some (dA n zs) := by kernel_rfl
theorem wp_build64 {ops : Array Oper} {rest : List Oper} {op : Oper} {a : Act} {w : World} {Q : Exit → Act → World → Prop} {x : Operand} {n : Int} (hgd : op.guard = none) (ho : op.op = .build 73 #[(0, x)]) (hx : a.eval x = .int .i64 n)
    (h : wpList Try.prog ops Q rest (a.put op.dst (.agg (dA n zs))) w) : wpList Try.prog ops Q (op :: rest) a w :=
  wpList_plain hgd fun _ hK => by
    have hr := run_build (P := Try.prog) w 73 #[(0, .int .i64 n)] _ (built64 n)
    unfold Oper.wp execOp
    simp only [ho, hx, List.map_toArray, List.map_cons, List.map_nil, Sem.run_bind, Sem.run_pure, Result.andThen_ok, hr]
    exact hK _ _ h

theorem Dif.newz (w : World) : Dif (w.alloc (.cells Try.zeroCells73 73)) w.heap.size 0 zs := by rw [zc64]; exact Dif.new w zs_len 73

/-- Facts in a block. -/
def Fc (w : World) (b : Nat) (z : Int) (a : Option Addr) (n c : Nat) : Prop := w.cell? ⟨b, 0, none⟩ = some (.int .i64 z) ∧ w.cell? ⟨b, 1, none⟩ = some (.slice a n c)
theorem Fc.lt {w : World} {b : Nat} {z : Int} {a : Option Addr} {n c : Nat} (h : Fc w b z a n c) : b < w.heap.size := World.block_lt_of_cell? w _ h.1
theorem Fc.below {w w' : World} {b : Nat} {z : Int} {a : Option Addr} {n c : Nat} (h : Fc w b z a n c) (hb : Below w.heap.size w w') : Fc w' b z a n c :=
  ⟨(hb.cell (p := ⟨b, 0, none⟩) h.lt).trans h.1, (hb.cell (p := ⟨b, 1, none⟩) h.lt).trans h.2⟩
theorem Fc.alloc {w : World} {b : Nat} {z : Int} {a : Option Addr} {n c : Nat} (h : Fc w b z a n c) (o : Obj) : Fc (w.alloc o) b z a n c := h.below ((Below.refl _ _).alloc (Nat.le_refl _) o)
theorem Fc.grown {w w' : World} {b : Nat} {z : Int} {a : Option Addr} {n c : Nat} {row : Option Nat} (h : Fc w b z a n c) (hg : w.grownBy w' row) (hr : some b ≠ row) : Fc w' b z a n c :=
  ⟨(hg.cell_far ⟨b, 0, none⟩ h.lt hr).trans h.1, (hg.cell_far ⟨b, 1, none⟩ h.lt hr).trans h.2⟩
theorem Fc.new (w : World) (z : Int) (a : Option Addr) (n c : Nat) (T : TypeId) : Fc (w.alloc (.cells #[.int .i64 z, .slice a n c] T)) w.heap.size z a n c := by
  constructor <;> simp [go_sem]

/-- A block for facts that are to be answered. -/
def Fz (w : World) (b : Nat) : Prop := Fc w b 0 none 0 0 ∧ w.frozen? ⟨b, 0, none⟩ = false ∧ w.frozen? ⟨b, 1, none⟩ = false
theorem Fz.lt {w : World} {b : Nat} (h : Fz w b) : b < w.heap.size := h.1.lt
theorem Fz.below {w w' : World} {b : Nat} (h : Fz w b) (hb : Below w.heap.size w w') : Fz w' b :=
  ⟨h.1.below hb, (hb.frozen (p := ⟨b, 0, none⟩) h.lt).trans h.2.1, (hb.frozen (p := ⟨b, 1, none⟩) h.lt).trans h.2.2⟩
theorem Fz.alloc {w : World} {b : Nat} (h : Fz w b) (o : Obj) : Fz (w.alloc o) b := h.below ((Below.refl _ _).alloc (Nat.le_refl _) o)
theorem Fz.grown {w w' : World} {b : Nat} {row : Option Nat} (h : Fz w b) (hg : w.grownBy w' row) (hr : some b ≠ row) : Fz w' b :=
  ⟨h.1.grown hg hr, (hg.frozen_far ⟨b, 0, none⟩ h.lt hr).trans h.2.1, (hg.frozen_far ⟨b, 1, none⟩ h.lt hr).trans h.2.2⟩
theorem Fz.new (w : World) : Fz (w.alloc (.cells #[.int .i64 0, .slice none 0 0] 27)) w.heap.size := ⟨Fc.new w 0 none 0 0 27, by simp [go_sem], by simp [go_sem]⟩
/-- What is answered: facts of their own memory. -/
def Gives (w w' : World) (e : Ending) (z : Int) (l : List Int) : Prop := ∃ ao cap, e = .returned (.agg #[.int .i64 z, .slice ao l.length cap]) ∧ OwnI w' w.heap.size (.slice ao l.length cap) l ∧ Below w.heap.size w w'

set_option maxHeartbeats 400000 in
theorem isNone_any (n : Int) (G : List Int) (w : World) : Calls Try.prog 56 #[.agg (dA n G)] w fun e w' => e = .returned (.bool (decide (n = 0))) ∧ Below w.heap.size w w' := by
  have h0 := dA0 n G
  go_enter Try.func56, Try.ntmps56
  go_wp2
  go_ret
  exact ⟨rfl, (Below.refl _ _).alloc (Nat.le_refl _) _⟩
end Go.Proofs.Ytmaejdomlggopaa
