/-
  GRIDS BY VALUE; CONTRACTS of the program's greater and lesser.
  What FactsMeet answers, as tables; a grid inside a table in memory.
-/
import Derived.Test.YtgclngofigffdaaFo02
import Derived.Test.YtgclngofigffdaaFo07
namespace Go.Proofs.Ytgclngofigffdaa
open Go.RowKit

def gA (L : List Int) : Array Value := (ints L).toArray
theorem gA_size (L : List Int) : (gA L).size = L.length := by simp [gA, ints_len]
/-- Numbers in a block that may be written. -/
structure Arr (w : World) (b m : Nat) (L : List Int) : Prop where
  len : L.length = m
  pos : 0 < m
  range : w.rangeAt b 0 (ints L)
  there : w.there b 0 m
theorem Arr.get {w : World} {b m : Nat} {L : List Int} (h : Arr w b m L) {p : Nat} {x : Int} (hp : p < m) (hx : L.getD p 0 = x) : w.cell? ⟨b, p, none⟩ = some (.int .i64 x) := by
  have := h.range p (.int .i64 x) (by rw [ints_get, get_of (by rw [h.len]; exact hp), hx]; rfl)
  rwa [Nat.zero_add] at this
theorem Arr.lt {w : World} {b m : Nat} {L : List Int} (h : Arr w b m L) : b < w.heap.size := World.block_lt_of_cell? w _ (h.get h.pos rfl)
theorem Arr.free {w : World} {b m : Nat} {L : List Int} (h : Arr w b m L) {o : Nat} (ho : o < m) : w.frozen? ⟨b, o, none⟩ = false := by simpa using (h.there o ho).2
theorem Arr.below {w w' : World} {b m : Nat} {L : List Int} (h : Arr w b m L) (hb : Below w.heap.size w w') : Arr w' b m L :=
  ⟨h.len, h.pos, fun j v hv => (hb.cell (p := ⟨b, 0 + j, none⟩) h.lt).trans (h.range j v hv), fun j hj => by rw [hb.cell (p := ⟨b, 0 + j, none⟩) h.lt, hb.frozen (p := ⟨b, 0 + j, none⟩) h.lt]; exact h.there j hj⟩
theorem Arr.drew {w : World} {b m : Nat} {L : List Int} (h : Arr w b m L) : Arr w.drew b m L := h.below (Below.refl _ _).drew
theorem Arr.alloc {w : World} {b m : Nat} {L : List Int} (h : Arr w b m L) (o : Obj) : Arr (w.alloc o) b m L := h.below ((Below.refl _ _).alloc (Nat.le_refl _) o)
theorem Arr.grown {w w' : World} {b m : Nat} {L : List Int} {row : Option Nat} (h : Arr w b m L) (hg : w.grownBy w' row) (hr : some b ≠ row) : Arr w' b m L := by
  have e := hg.block b h.lt hr
  exact ⟨h.len, h.pos, fun j v hv => (World.cell?_of_block (w := w) (w' := w') (a := ⟨b, 0 + j, none⟩) e).trans (h.range j v hv), fun j hj => by
    rw [World.cell?_of_block (w := w) (w' := w') (a := ⟨b, 0 + j, none⟩) e, World.frozen?_of_block (w := w) (w' := w') (a := ⟨b, 0 + j, none⟩) e]; exact h.there j hj⟩
theorem Arr.new (w : World) {L : List Int} {m : Nat} (h : L.length = m) (hm : 0 < m) (T : TypeId) : Arr (w.alloc (.cells (gA L) T)) w.heap.size m L := by
  have hc : ∀ j, (w.alloc (.cells (gA L) T)).cell? ⟨w.heap.size, 0 + j, none⟩ = (ints L)[j]? := fun j => by rw [Nat.zero_add, World.cell?_alloc_new]; simp [gA]
  exact ⟨h, hm, fun j v hv => (hc j).trans hv, fun j hj => ⟨by rw [hc, List.getElem?_eq_getElem (by rw [ints_len, h]; exact hj)]; rfl, by simp [go_sem]⟩⟩
theorem Arr.put {w : World} {b m : Nat} {L : List Int} (h : Arr w b m L) {p : Nat} (hp : p < m) (x : Int) : Arr (w.setCell ⟨b, p, none⟩ (.int .i64 x)) b m (L.set p x) := by
  have hu := h.get hp rfl
  refine ⟨by rw [List.length_set]; exact h.len, h.pos, fun j v hv => ?_, fun j hj => ⟨?_, ?_⟩⟩
  · rw [Nat.zero_add]
    rw [← ints_set] at hv
    by_cases e : p = j
    · subst e
      rw [World.cell?_setCell_same _ _ _ hu]
      rw [List.getElem?_set_self (by rw [ints_len, h.len]; exact hp)] at hv
      exact hv
    · rw [World.cell?_setCell_other _ _ _ _ (fun e2 => e (congrArg Addr.off e2))]
      rw [List.getElem?_set_ne e] at hv
      have := h.range j v hv
      rwa [Nat.zero_add] at this
  · obtain ⟨v, hv⟩ := Option.isSome_iff_exists.1 (h.there j hj).1
    by_cases e : (⟨b, p, none⟩ : Addr) = ⟨b, 0 + j, none⟩
    · rw [← e, World.cell?_setCell_same _ _ _ hu]; rfl
    · rw [World.cell?_setCell_other _ _ _ _ e, hv]; rfl
  · rw [World.frozen?_setCell]; exact (h.there j hj).2
theorem info62 : (Try.prog.info? 57).map (fun i => (i.zero, i.size)) = some (some (.agg (gA zs)), 169) := by kernel_rfl
theorem info60 : (Try.prog.info? 55).map (fun i => (i.zero, i.size)) = some (some (.agg (gA (List.replicate 13 0))), 13) := by kernel_rfl
theorem size62 : (Try.prog.info? 57).map (·.size) = some 169 := (zero_of_info info62).2
theorem size60 : (Try.prog.info? 55).map (·.size) = some 13 := (zero_of_info info60).2
theorem zc62 : Try.zeroCells57 = gA zs := by kernel_rfl
theorem ints_one (L : List Int) : ∀ v ∈ ints L, v.oneCell' = true := fun v hv => by simp only [ints, List.mem_map] at hv; obtain ⟨x, _, rfl⟩ := hv; rfl
/-- The types of grids and of their rows. -/
def Ty (T m : Nat) : Prop := (∃ d, Try.prog.underlying T = some d ∧ d.isRow = true) ∧ (Try.prog.info? T).map (·.size) = some m
theorem ty62 : Ty 57 169 := ⟨⟨_, Try.underlying57, rfl⟩, size62⟩
theorem ty60 : Ty 55 13 := ⟨⟨_, Try.underlying55, rfl⟩, size60⟩
theorem wp_loadA {T m : Nat} (hT : Ty T m) {ops : Array Oper} {rest : List Oper} {op : Oper} {a : Act} {w : World} {Q : Exit → Act → World → Prop} {x : Operand} {b : Nat} {L : List Int} (hD : Arr w b m L) (hgd : op.guard = none) (ho : op.op = .load T x)
    (hx : a.eval x = .pointer (some ⟨b, 0, none⟩)) (h : wpList Try.prog ops Q rest (a.put op.dst (.agg (gA L))) w) : wpList Try.prog ops Q (op :: rest) a w := by
  obtain ⟨⟨d, h1, h2⟩, h3⟩ := hT
  exact wpList_load_mid hgd T x ho b 0 hx (ints L) d hD.range h1 h2 (by rw [ints_len, hD.len]; exact h3) h
theorem wp_storeA {T m : Nat} (hT : Ty T m) {ops : Array Oper} {rest : List Oper} {op : Oper} {a : Act} {w : World} {Q : Exit → Act → World → Prop} {x y : Operand} {b : Nat} {L L' : List Int} (hD : Arr w b m L) (h' : L'.length = m) (hgd : op.guard = none) (ho : op.op = .store T x y)
    (hx : a.eval x = .pointer (some ⟨b, 0, none⟩)) (hy : a.eval y = .agg (gA L')) (h : ∀ w2, Arr w2 b m L' → w.grownBy w2 (some b) → wpList Try.prog ops Q rest (a.put op.dst undef) w2) : wpList Try.prog ops Q (op :: rest) a w := by
  refine wpList_store_mid hgd T x y ho b 0 (gA L') hx hy (by rw [gA_size, h']; exact hD.there) (by rw [gA_size, h']; exact hT.2) (all_oneCell_toArray (ints_one L')) ?_
  have e : (gA L').toList = ints L' := by simp [gA]
  rw [e]
  exact h _ ⟨h', hD.pos, World.rangeAt_setCells_same w b 0 _ (by rw [ints_len, h']; exact hD.there), World.there_setCells hD.there b 0 _⟩ (grown_setCells b _ 0 w)
theorem retA {T m : Nat} (hT : Ty T m) {fn : Func} {p : Tmp} (h : fn.results = #[.cell p T]) {R : Ending → World → Prop} {a : Act} {w : World} {b : Nat} {L : List Int} (hD : Arr w b m L) (hp : a.tmps.getD p undef = .pointer (some ⟨b, 0, none⟩)) (hd : a.defers = []) (hR : R (.returned (.agg (gA L))) w) : bodyPost Try.prog fn R .ret a w := by
  refine bodyPost_ret (v := .agg (gA L)) ?_ hd hR
  obtain ⟨⟨d, h1, h2⟩, h3⟩ := hT
  rw [results_cell h, hp]
  have := run_loadVar_mid (P := Try.prog) w b 0 T (ints L) d hD.range h1 h2 (by rw [ints_len, hD.len]; exact h3)
  simp only [asAddr, Sem.run_pure, Result.andThen_ok, this]
  rfl
def rowG (G : List Int) (i : Nat) : List Int := (G.drop (i * 13)).take 13
theorem rowG_len {G : List Int} (h : G.length = 169) {i : Nat} (hi : i < 13) : (rowG G i).length = 13 := by simp [rowG, h]; omega
theorem rowG_get {G : List Int} {i j : Nat} (hj : j < 13) : (rowG G i).getD j 0 = G.getD (i * 13 + j) 0 := by
  simp only [rowG, List.getD_eq_getElem?_getD, List.getElem?_take, List.getElem?_drop]
  rw [if_pos hj]
theorem run_index62 (G : List Int) {i : Nat} (hi : i < 13) (w : World) : (Instr.index 57 (.agg (gA G)) (.int .i64 i)).run Try.prog w = .ok (.agg (gA (rowG G i))) w := by
  have h1 : (0 : Int) ≤ (i : Int) ∧ (i : Int) < ((13 : Nat) : Int) := ⟨by omega, by omega⟩
  have h2 : (gA G).extract (i * 13) (i * 13 + 13) = gA (rowG G i) := by
    unfold gA rowG ints
    simp [List.map_take, List.map_drop]
  simp only [Instr.index, asIntOf, Sem.run_bind, Sem.run_pure, Result.andThen_ok, run_underlying Try.underlying57]
  rw [if_pos h1]
  simp [part, Try.isAgg55, Try.sizeOf55, h2]
theorem run_index60 (L : List Int) (hL : L.length = 13) {j : Nat} (hj : j < 13) (w : World) : (Instr.index 55 (.agg (gA L)) (.int .i64 j)).run Try.prog w = .ok (.int .i64 (L.getD j 0)) w := by
  have h1 : (0 : Int) ≤ (j : Int) ∧ (j : Int) < ((13 : Nat) : Int) := ⟨by omega, by omega⟩
  have h2 : (gA L)[j]? = some (.int .i64 (L.getD j 0)) := by
    unfold gA
    rw [List.getElem?_toArray, ints_get, get_of (by omega)]; rfl
  simp only [Instr.index, asIntOf, Sem.run_bind, Sem.run_pure, Result.andThen_ok, run_underlying Try.underlying55]
  rw [if_pos h1]
  simp only [part, Try.isAgg3, Try.sizeOf3, Sem.run_bind, Result.andThen_ok]
  simp [h2]
theorem wp_index {T : Nat} {v r : Value} {i : Int} {ops : Array Oper} {rest : List Oper} {op : Oper} {a : Act} {w : World} {Q : Exit → Act → World → Prop} {x y : Operand} (hr : (Instr.index T v (.int .i64 i)).run Try.prog w = .ok r w) (hgd : op.guard = none) (ho : op.op = .index T x y) (hx : a.eval x = v) (hy : a.eval y = .int .i64 i)
    (h : wpList Try.prog ops Q rest (a.put op.dst r) w) : wpList Try.prog ops Q (op :: rest) a w :=
  wpList_plain hgd fun _ hK => by
    unfold Oper.wp execOp
    simp only [ho, hx, hy, hr, Sem.run_bind, Sem.run_pure, Result.andThen_ok]
    exact hK _ _ h
def opP (m : Int → Int → Int) (G H : List Int) (u : Nat) : List Int := (List.range 169).map fun p => if p < u then m (G.getD p 0) (H.getD p 0) else G.getD p 0
def opL (m : Int → Int → Int) (G H : List Int) : List Int := (List.range 169).map fun p => m (G.getD p 0) (H.getD p 0)
theorem opP_len (m : Int → Int → Int) (G H : List Int) (u : Nat) : (opP m G H u).length = 169 := by simp [opP]
theorem opL_len (m : Int → Int → Int) (G H : List Int) : (opL m G H).length = 169 := by simp [opL]
theorem opP_get {m : Int → Int → Int} {G H : List Int} {u p : Nat} (hp : p < 169) : (opP m G H u)[p]? = some (if p < u then m (G.getD p 0) (H.getD p 0) else G.getD p 0) := by
  simp only [opP, List.getElem?_map]
  rw [List.getElem?_range hp]; rfl
theorem opP_all (m : Int → Int → Int) (G H : List Int) : opP m G H 169 = opL m G H := by
  unfold opP opL
  exact List.map_congr_left fun p hp => if_pos (List.mem_range.1 hp)
theorem opP_none {m : Int → Int → Int} {G H : List Int} (h : G.length = 169) : opP m G H 0 = G := by
  apply List.ext_getElem?
  intro p
  by_cases hp : p < 169
  · rw [opP_get hp, if_neg (Nat.not_lt_zero _), get_of (by rw [h]; exact hp)]
  · rw [List.getElem?_eq_none (by rw [opP_len]; omega), List.getElem?_eq_none (by omega)]
theorem opP_next {m : Int → Int → Int} {G H : List Int} {u : Nat} : (opP m G H u).set u (m (G.getD u 0) (H.getD u 0)) = opP m G H (u + 1) := by
  apply List.ext_getElem?
  intro p
  by_cases hp : p < 169
  · by_cases e : u = p
    · subst e
      rw [List.getElem?_set_self (by rw [opP_len]; exact hp), opP_get hp, if_pos (Nat.lt_succ_self _)]
    · rw [List.getElem?_set_ne e, opP_get hp, opP_get hp]
      by_cases h : p < u
      · rw [if_pos h, if_pos (by omega)]
      · rw [if_neg h, if_neg (by omega)]
  · rw [List.getElem?_eq_none (by rw [List.length_set, opP_len]; omega), List.getElem?_eq_none (by rw [opP_len]; omega)]
theorem opP_now {m : Int → Int → Int} {G H : List Int} {u : Nat} (hu : u < 169) : (opP m G H u).getD u 0 = G.getD u 0 := by
  rw [List.getD_eq_getElem?_getD, opP_get hu, if_neg (Nat.lt_irrefl _)]; rfl
theorem newRow (w : World) : Arr (w.alloc (.cells #[.int .i64 0, .int .i64 0, .int .i64 0, .int .i64 0, .int .i64 0, .int .i64 0, .int .i64 0, .int .i64 0, .int .i64 0, .int .i64 0, .int .i64 0, .int .i64 0, .int .i64 0] 55)) w.heap.size 13 (List.replicate 13 0) := Arr.new w (L := List.replicate 13 0) rfl (by decide) 55
set_option maxRecDepth 100000 in
set_option maxHeartbeats 3200000 in
theorem greater_any (G H : List Int) (hG : G.length = 169) (hH : H.length = 169) (w : World) : Calls Try.prog 43 #[.agg (gA G), .agg (gA H)] w fun e w' => e = .returned (.agg (gA (opL max G H))) ∧ Below w.heap.size w w' := by
  have hz := zc62
  have hM : ∀ (v : World) (ts : Array TypeId) (t : TypeId) (x y : Int), (Builtin.max_ ts t #[.int .i64 x, .int .i64 y]).run Try.prog v = .ok (.int .i64 (max x y)) v := run_max_M
  have A0 : Hid (Arr (((w.alloc (.cells (gA G) 57)).alloc (.cells (gA H) 57)).alloc (.cells (gA zs) 57)) w.heap.size 169 (opP max G H 0)) := mkHid (by rw [opP_none hG]; exact ((Arr.new w hG (by decide) 57).alloc _).alloc _)
  have H0 : Hid (Arr (((w.alloc (.cells (gA G) 57)).alloc (.cells (gA H) 57)).alloc (.cells (gA zs) 57)) (w.heap.size + 1) 169 H) := mkHid (by have := (Arr.new (w.alloc (.cells (gA G) 57)) hH (by decide) 57).alloc (.cells (gA zs) 57); simpa using this)
  have R0 : Hid (Arr (((w.alloc (.cells (gA G) 57)).alloc (.cells (gA H) 57)).alloc (.cells (gA zs) 57)) (w.heap.size + 2) 169 zs) := mkHid (by have := Arr.new ((w.alloc (.cells (gA G) 57)).alloc (.cells (gA H) 57)) zs_len (by decide) 57; simpa using this)
  have B0 := mkHid ((((Below.refl w.heap.size w).alloc (Nat.le_refl _) (.cells (gA G) 57)).alloc (by simp) (.cells (gA H) 57)).alloc (by simp; omega) (.cells (gA zs) 57))
  have HEND := mkHid (opP_all max G H)
  have HLEN := mkHid (opL_len max G H)
  have HNX : Hid (∀ u, u < 169 → (opP max G H u).set u (max (G.getD u 0) (H.getD u 0)) = opP max G H (u + 1)) := mkHid fun u _ => opP_next
  have HNW : Hid (∀ u, u < 169 → (opP max G H u).getD u 0 = G.getD u 0) := mkHid fun u hu => opP_now hu
  obtain ⟨P, hP⟩ : ∃ P, opP max G H = P := ⟨_, rfl⟩
  rw [hP] at A0 HEND HNX HNW
  obtain ⟨E, hE⟩ : ∃ E, opL max G H = E := ⟨_, rfl⟩
  rw [hE] at HEND HLEN
  rw [hE]
  have HHL := mkHid hH
  clear hP hE hG hH
  go_enter Try.func43, Try.ntmps43
  go_wp2_with (first | (refine wp_loadA ty62 H0.out rfl rfl rfl ?_))
  go_loopg [10] 13 (fun g s wr => ∃ i : Nat, i + g = 13 ∧ s = .int .i64 i ∧ Arr wr w.heap.size 169 (P (i * 13)) ∧ Arr wr (w.heap.size + 2) 169 zs ∧ Below w.heap.size w wr)
  case atStart => exact ⟨0, by omega, rfl, A0.out, R0.out, B0.out⟩
  case round =>
    obtain ⟨i, hig, rfl, hA, hR, hB⟩ := hrel
    have HA := mkHid hA
    have HR := mkHid hR
    have HB := mkHid hB
    clear hA hR hB A0 R0 B0 H0
    cases gk with
    | zero =>
      have hlt : ¬ ((i : Int) < 13) := by omega
      have e : i = 13 := by omega
      subst e
      rw [show 13 * 13 = 169 from rfl, HEND.out] at HA
      go_wp2_with (first | (refine wp_loadA ty62 HA.out rfl rfl rfl ?_) | (refine wp_storeA ty62 HR.out HLEN.out rfl rfl rfl rfl ?_; intro w2 hD2 hg2))
      exact retA ty62 rfl hD2 rfl rfl ⟨rfl, HB.out.grown hg2 HB.out.size (fun q hq => by cases hq; omega)⟩
    | succ g =>
      have hlt : (i : Int) < 13 := by omega
      have hi13 : i < 13 := by omega
      have NR := mkHid (newRow wr)
      have HRL := mkHid (rowG_len HHL.out hi13)
      have HIX := mkHid (fun v => run_index62 H hi13 v)
      have HRG : Hid (∀ j, j < 13 → (rowG H i).getD j 0 = H.getD (i * 13 + j) 0) := mkHid fun j hj => rowG_get hj
      obtain ⟨L, hL⟩ : ∃ L, rowG H i = L := ⟨_, rfl⟩
      rw [hL] at HRL HIX HRG
      clear hL
      go_wp2_with (first | (refine wp_index (HIX.out _) rfl rfl rfl rfl ?_) | (refine wp_storeA ty60 NR.out HRL.out rfl rfl rfl rfl ?_; intro w2 hD2 hg2) | (refine wp_loadA ty60 hD2 rfl rfl rfl ?_))
      have hs := HA.out.lt
      have hs2 := HR.out.lt
      have A2 := mkHid ((HA.out.alloc _).grown hg2 (some_ne (by omega)))
      have R2 := mkHid ((HR.out.alloc _).grown hg2 (some_ne (by omega)))
      have B2 := mkHid ((HB.out.alloc HB.out.size _).grown hg2 (by have := HB.out.size; simp; omega) (fun q hq => by cases hq; exact HB.out.size))
      clear hD2 hg2 NR HA HR HB hs hs2
      go_loopg [15] 13 (fun g s wy => ∃ j : Nat, j + g = 13 ∧ s = .int .i64 j ∧ Arr wy w.heap.size 169 (P (i * 13 + j)) ∧ Arr wy (w.heap.size + 2) 169 zs ∧ Below w.heap.size w wy)
      case atStart => exact ⟨0, by omega, rfl, A2.out, R2.out, B2.out⟩
      case round =>
        obtain ⟨j, hjg, rfl, hA, hR, hB⟩ := hrel
        have HA := mkHid hA
        have HR := mkHid hR
        have HB := mkHid hB
        clear hA hR hB A2 R2 B2
        cases gk with
        | zero =>
          have hlt2 : ¬ ((j : Int) < 13) := by omega
          have e : j = 13 := by omega
          subst e
          go_wp2
          go_roundg g
          case measure => omega
          case rel => exact ⟨i + 1, by omega, by go_num, by rw [show (i + 1) * 13 = i * 13 + 13 by omega]; exact HA.out, HR.out, HB.out⟩
        | succ g2 =>
          have hlt2 : (j : Int) < 13 := by omega
          have hj13 : j < 13 := by omega
          have HIY := mkHid (fun v => run_index60 L HRL.out hj13 v)
          have hgx := HRG.out j hj13
          obtain ⟨y, hy⟩ : ∃ y, H.getD (i * 13 + j) 0 = y := ⟨_, rfl⟩
          rw [hgx, hy] at HIY
          obtain ⟨x, hx⟩ : ∃ x, G.getD (i * 13 + j) 0 = x := ⟨_, rfl⟩
          have HS := mkHid (HNX.out (i * 13 + j) (by omega))
          rw [hx, hy] at HS
          have c1 := HA.out.get (p := i * 13 + j) (x := x) (by omega) (by rw [HNW.out _ (by omega)]; exact hx)
          have f1 := HA.out.free (o := i * 13 + j) (by omega)
          have a0 : (0 : Int) ≤ (i : Int) := by omega
          have a2 : (0 : Int) ≤ (j : Int) := by omega
          clear hgx hy hx
          go_wp2_with (first | (refine wp_index (HIY.out _) rfl rfl rfl rfl ?_))
          go_region
          all_goals
            have A3 : Hid (Arr (wr.setCell ⟨w.heap.size, i * 13 + j, none⟩ (.int .i64 (max x y))).drew w.heap.size 169 (P (i * 13 + j + 1))) := mkHid (by rw [← HS.out]; exact (HA.out.put (by omega) _).drew)
            have R3 := mkHid ((HR.out.grown (grown_setCell wr ⟨w.heap.size, i * 13 + j, none⟩ (.int .i64 (max x y))) (some_ne (by show w.heap.size + 2 ≠ w.heap.size; omega))).drew)
            have B3 := mkHid (HB.out.setCell (p := ⟨w.heap.size, i * 13 + j, none⟩) (Nat.le_refl _) (.int .i64 (max x y))).drew
            obtain ⟨w3, hw3⟩ : ∃ w3, (wr.setCell ⟨w.heap.size, i * 13 + j, none⟩ (.int .i64 (max x y))).drew = w3 := ⟨_, rfl⟩
            rw [hw3] at A3 R3 B3
            rw [hw3]
            clear hw3 c1 f1
            go_wp2
            go_roundg g2
            case measure => omega
            case rel => exact ⟨j + 1, by omega, by go_num, A3.out, R3.out, B3.out⟩
set_option maxRecDepth 100000 in
set_option maxHeartbeats 3200000 in
theorem lesser_any (G H : List Int) (hG : G.length = 169) (hH : H.length = 169) (w : World) : Calls Try.prog 45 #[.agg (gA G), .agg (gA H)] w fun e w' => e = .returned (.agg (gA (opL min G H))) ∧ Below w.heap.size w w' := by
  have hz := zc62
  have hM : ∀ (v : World) (ts : Array TypeId) (t : TypeId) (x y : Int), (Builtin.min_ ts t #[.int .i64 x, .int .i64 y]).run Try.prog v = .ok (.int .i64 (min x y)) v := run_min_M
  have A0 : Hid (Arr (((w.alloc (.cells (gA G) 57)).alloc (.cells (gA H) 57)).alloc (.cells (gA zs) 57)) w.heap.size 169 (opP min G H 0)) := mkHid (by rw [opP_none hG]; exact ((Arr.new w hG (by decide) 57).alloc _).alloc _)
  have H0 : Hid (Arr (((w.alloc (.cells (gA G) 57)).alloc (.cells (gA H) 57)).alloc (.cells (gA zs) 57)) (w.heap.size + 1) 169 H) := mkHid (by have := (Arr.new (w.alloc (.cells (gA G) 57)) hH (by decide) 57).alloc (.cells (gA zs) 57); simpa using this)
  have R0 : Hid (Arr (((w.alloc (.cells (gA G) 57)).alloc (.cells (gA H) 57)).alloc (.cells (gA zs) 57)) (w.heap.size + 2) 169 zs) := mkHid (by have := Arr.new ((w.alloc (.cells (gA G) 57)).alloc (.cells (gA H) 57)) zs_len (by decide) 57; simpa using this)
  have B0 := mkHid ((((Below.refl w.heap.size w).alloc (Nat.le_refl _) (.cells (gA G) 57)).alloc (by simp) (.cells (gA H) 57)).alloc (by simp; omega) (.cells (gA zs) 57))
  have HEND := mkHid (opP_all min G H)
  have HLEN := mkHid (opL_len min G H)
  have HNX : Hid (∀ u, u < 169 → (opP min G H u).set u (min (G.getD u 0) (H.getD u 0)) = opP min G H (u + 1)) := mkHid fun u _ => opP_next
  have HNW : Hid (∀ u, u < 169 → (opP min G H u).getD u 0 = G.getD u 0) := mkHid fun u hu => opP_now hu
  obtain ⟨P, hP⟩ : ∃ P, opP min G H = P := ⟨_, rfl⟩
  rw [hP] at A0 HEND HNX HNW
  obtain ⟨E, hE⟩ : ∃ E, opL min G H = E := ⟨_, rfl⟩
  rw [hE] at HEND HLEN
  rw [hE]
  have HHL := mkHid hH
  clear hP hE hG hH
  go_enter Try.func45, Try.ntmps45
  go_wp2_with (first | (refine wp_loadA ty62 H0.out rfl rfl rfl ?_))
  go_loopg [10] 13 (fun g s wr => ∃ i : Nat, i + g = 13 ∧ s = .int .i64 i ∧ Arr wr w.heap.size 169 (P (i * 13)) ∧ Arr wr (w.heap.size + 2) 169 zs ∧ Below w.heap.size w wr)
  case atStart => exact ⟨0, by omega, rfl, A0.out, R0.out, B0.out⟩
  case round =>
    obtain ⟨i, hig, rfl, hA, hR, hB⟩ := hrel
    have HA := mkHid hA
    have HR := mkHid hR
    have HB := mkHid hB
    clear hA hR hB A0 R0 B0 H0
    cases gk with
    | zero =>
      have hlt : ¬ ((i : Int) < 13) := by omega
      have e : i = 13 := by omega
      subst e
      rw [show 13 * 13 = 169 from rfl, HEND.out] at HA
      go_wp2_with (first | (refine wp_loadA ty62 HA.out rfl rfl rfl ?_) | (refine wp_storeA ty62 HR.out HLEN.out rfl rfl rfl rfl ?_; intro w2 hD2 hg2))
      exact retA ty62 rfl hD2 rfl rfl ⟨rfl, HB.out.grown hg2 HB.out.size (fun q hq => by cases hq; omega)⟩
    | succ g =>
      have hlt : (i : Int) < 13 := by omega
      have hi13 : i < 13 := by omega
      have NR := mkHid (newRow wr)
      have HRL := mkHid (rowG_len HHL.out hi13)
      have HIX := mkHid (fun v => run_index62 H hi13 v)
      have HRG : Hid (∀ j, j < 13 → (rowG H i).getD j 0 = H.getD (i * 13 + j) 0) := mkHid fun j hj => rowG_get hj
      obtain ⟨L, hL⟩ : ∃ L, rowG H i = L := ⟨_, rfl⟩
      rw [hL] at HRL HIX HRG
      clear hL
      go_wp2_with (first | (refine wp_index (HIX.out _) rfl rfl rfl rfl ?_) | (refine wp_storeA ty60 NR.out HRL.out rfl rfl rfl rfl ?_; intro w2 hD2 hg2) | (refine wp_loadA ty60 hD2 rfl rfl rfl ?_))
      have hs := HA.out.lt
      have hs2 := HR.out.lt
      have A2 := mkHid ((HA.out.alloc _).grown hg2 (some_ne (by omega)))
      have R2 := mkHid ((HR.out.alloc _).grown hg2 (some_ne (by omega)))
      have B2 := mkHid ((HB.out.alloc HB.out.size _).grown hg2 (by have := HB.out.size; simp; omega) (fun q hq => by cases hq; exact HB.out.size))
      clear hD2 hg2 NR HA HR HB hs hs2
      go_loopg [15] 13 (fun g s wy => ∃ j : Nat, j + g = 13 ∧ s = .int .i64 j ∧ Arr wy w.heap.size 169 (P (i * 13 + j)) ∧ Arr wy (w.heap.size + 2) 169 zs ∧ Below w.heap.size w wy)
      case atStart => exact ⟨0, by omega, rfl, A2.out, R2.out, B2.out⟩
      case round =>
        obtain ⟨j, hjg, rfl, hA, hR, hB⟩ := hrel
        have HA := mkHid hA
        have HR := mkHid hR
        have HB := mkHid hB
        clear hA hR hB A2 R2 B2
        cases gk with
        | zero =>
          have hlt2 : ¬ ((j : Int) < 13) := by omega
          have e : j = 13 := by omega
          subst e
          go_wp2
          go_roundg g
          case measure => omega
          case rel => exact ⟨i + 1, by omega, by go_num, by rw [show (i + 1) * 13 = i * 13 + 13 by omega]; exact HA.out, HR.out, HB.out⟩
        | succ g2 =>
          have hlt2 : (j : Int) < 13 := by omega
          have hj13 : j < 13 := by omega
          have HIY := mkHid (fun v => run_index60 L HRL.out hj13 v)
          have hgx := HRG.out j hj13
          obtain ⟨y, hy⟩ : ∃ y, H.getD (i * 13 + j) 0 = y := ⟨_, rfl⟩
          rw [hgx, hy] at HIY
          obtain ⟨x, hx⟩ : ∃ x, G.getD (i * 13 + j) 0 = x := ⟨_, rfl⟩
          have HS := mkHid (HNX.out (i * 13 + j) (by omega))
          rw [hx, hy] at HS
          have c1 := HA.out.get (p := i * 13 + j) (x := x) (by omega) (by rw [HNW.out _ (by omega)]; exact hx)
          have f1 := HA.out.free (o := i * 13 + j) (by omega)
          have a0 : (0 : Int) ≤ (i : Int) := by omega
          have a2 : (0 : Int) ≤ (j : Int) := by omega
          clear hgx hy hx
          go_wp2_with (first | (refine wp_index (HIY.out _) rfl rfl rfl rfl ?_))
          go_region
          all_goals
            have A3 : Hid (Arr (wr.setCell ⟨w.heap.size, i * 13 + j, none⟩ (.int .i64 (min x y))).drew w.heap.size 169 (P (i * 13 + j + 1))) := mkHid (by rw [← HS.out]; exact (HA.out.put (by omega) _).drew)
            have R3 := mkHid ((HR.out.grown (grown_setCell wr ⟨w.heap.size, i * 13 + j, none⟩ (.int .i64 (min x y))) (some_ne (by show w.heap.size + 2 ≠ w.heap.size; omega))).drew)
            have B3 := mkHid (HB.out.setCell (p := ⟨w.heap.size, i * 13 + j, none⟩) (Nat.le_refl _) (.int .i64 (min x y))).drew
            obtain ⟨w3, hw3⟩ : ∃ w3, (wr.setCell ⟨w.heap.size, i * 13 + j, none⟩ (.int .i64 (min x y))).drew = w3 := ⟨_, rfl⟩
            rw [hw3] at A3 R3 B3
            rw [hw3]
            clear hw3 c1 f1
            go_wp2
            go_roundg g2
            case measure => omega
            case rel => exact ⟨j + 1, by omega, by go_num, A3.out, R3.out, B3.out⟩
end Go.Proofs.Ytgclngofigffdaa
namespace Go.Proofs.Ytgclngofigffdaa
open Go.RowKit

/-- What FactsMeet answers. -/
def metF (z : Int) (l : List Int) (z' : Int) (l' : List Int) : Option Tab := if okF z l && (okF z' l' && decide (z = z')) then cloO z.toNat (fun a b => min (tab z.toNat l a b) (tab z.toNat l' a b)) else none
theorem met_bd {n : Nat} {f g : Tab} (hf : Fine n f) (hg : Fine n g) : Bd n (fun a b => min (f a b) (g a b)) 10000000 := fun a b ha hb => by
  have q1 := hf a b ha hb
  have q2 := hg a b ha hb
  have q3 := cap_le a b
  show -10000000 ≤ min (f a b) (g a b) ∧ min (f a b) (g a b) ≤ 10000000
  omega
theorem met_cap {n : Nat} {f : Tab} (g : Tab) (hf : Fine n f) : (∀ a b, a < n → b < n → min (f a b) (g a b) ≤ capT a b) ∧ ∀ a, a < n → min (f a a) (g a a) ≤ 0 := by
  refine ⟨fun a b ha hb => ?_, fun a ha => ?_⟩
  · have := hf a b ha hb; omega
  · have := (hf a a ha ha).2.2 rfl; omega
theorem grid_op {n : Nat} (hn : n ≤ 13) (f g : Tab) (m : Int → Int → Int) (h0 : m 0 0 = 0) : opL m (grid n f) (grid n g) = grid n (fun a b => m (f a b) (g a b)) := by
  refine grid_of hn (opL_len _ _ _) (fun a b ha hb => ?_) (fun p hp => ?_)
  · have h1 := grid_V hn f a b ha hb
    have h2 := grid_V hn g a b ha hb
    have hlt : a * 13 + b < 169 := by omega
    rw [List.getD_eq_getElem?_getD]
    simp only [opL, List.getElem?_map]
    rw [List.getElem?_range hlt]
    show m _ _ = _
    rw [h1, h2]
  · have h1 := grid_out (f := f) p hp
    have h2 := grid_out (f := g) p hp
    by_cases hlt : p < 169
    · rw [List.getD_eq_getElem?_getD]
      simp only [opL, List.getElem?_map]
      rw [List.getElem?_range hlt]
      show m _ _ = _
      rw [h1, h2, h0]
    · rw [List.getD_eq_getElem?_getD, List.getElem?_eq_none (by rw [opL_len]; omega)]; rfl
/-- The grid inside a table. -/
theorem Dif.arr {w : World} {b : Nat} {n : Int} {G : List Int} (h : Dif w b n G) : w.rangeAt b 1 (ints G) := fun j v hv => by
  have := h.range (j + 1) v (by simpa [dL] using hv)
  rw [show 0 + (j + 1) = 1 + j by omega] at this
  exact this
theorem Dif.part {w : World} {b : Nat} {n : Int} {G H : List Int} (h : Dif w b n G) (hH : H.length = 169) : Dif (w.setCells b 1 (ints H)) b n H := by
  refine ⟨hH, fun j v hv => ?_, World.there_setCells h.there _ _ _⟩
  cases j with
  | zero =>
    rw [World.cell?_setCells_out b _ _ w ⟨b, 0 + 0, none⟩ (fun _ _ => .inl (by show 0 + 0 < 1; omega))]
    exact h.range 0 v (by simpa [dL] using hv)
  | succ p =>
    have h2 := World.cell?_setCells_in b (ints H) 1 w (fun j hj => by
      rw [ints_len, hH] at hj
      have := (h.there (1 + j) (by omega)).1
      simpa using this) p (by
        have := (List.getElem?_eq_some_iff.1 hv).1
        simp [dL, ints_len] at this
        rw [ints_len]; exact this)
    rw [show 0 + (p + 1) = 1 + p by omega, h2]
    have : (dL n H)[p + 1]? = (ints H)[p]? := by simp [dL]
    rw [this, List.getElem?_eq_getElem] at hv
    exact hv
theorem dA_part (n : Int) (G : List Int) (h : G.length = 169) : (dA n G).extract 1 170 = gA G := by
  unfold dA dL gA
  apply Array.ext'
  simp
  exact List.take_of_length_le (by rw [ints_len, h]; omega)
end Go.Proofs.Ytgclngofigffdaa
