/-
  CONTRACTS of the specification's l10Drop and SegDrop.
  PURE: which terms go and which are renamed when a symbol is shifted; ROWS OF LINKS whose terms are written in place.
  CONTRACT of the program's assignment.renamed.
-/
import Derived.Test.YtodjmpocpfkpaaaGreatKx30
import Derived.Test.YtodjmpocpfkpaaaGreatKx16
import Derived.Test.YtodjmpocpfkpaaaGreatKx29
import Derived.Test.YtodjmpocpfkpaaaGreatKx17
namespace Go.Proofs.YtodjmpocpfkpaaaGreat
open Go.RowKit

/-- A Seg in a box whose bounds alone are of our own. -/
structure GrowB (w : World) (base X : Nat) (A : SAd) (S : SG) : Prop where
 box : w.heap[X]? = some (.cells (sgC A S) 31 (0, 0))
 b : OwnYY w base (.slice A.a0 S.B.length A.c0) S.B
theorem GrowB.lt {w : World} {base X : Nat} {A : SAd} {S : SG} (h : GrowB w base X A S) : X < w.heap.size := heap_lt h.box
theorem GrowB.below {w w' : World} {base X : Nat} {A : SAd} {S : SG} (h : GrowB w base X A S) (hb : Below w.heap.size w w') : GrowB w' base X A S := ⟨(hb.block X h.lt).trans h.box, h.b.below hb⟩
theorem GrowB.g3 {w : World} {base X : Nat} {A : SAd} {S : SG} (h : GrowB w base X A S) : G3 w X (.slice A.a0 S.B.length A.c0) (.slice A.a1 S.V.length A.c1) (.slice A.a2 S.M.length A.c2) :=
 ⟨heap_cell h.box 0, heap_cell h.box 1, heap_cell h.box 2, heap_free h.box 0, heap_free h.box 1, heap_free h.box 2⟩
theorem GrowB.stepB {wr va : World} {base Bx : Nat} {A : SAd} {S : SG} {g c : Nat} {gr : Option Addr} {cr : Nat} {x : List Y} {vs : List Value} (h : GrowB wr base Bx A S) (hbs : base ≤ wr.heap.size) (hvs : wr.ownsRow base 63 1 (.slice A.a0 S.B.length A.c0) S.B.length vs) (hin : Inn wr base vs S.B)
  (hf : ∃ vc, Aft wr (fun v => Own eY 65 v wr.heap.size (.slice gr x.length cr) x) (Value.ownBlock (.slice A.a0 S.B.length A.c0)) (fun v => v.ownsRow base 63 1 (.slice (some ⟨g, 0, none⟩) (S.B.length + 1) c) (S.B.length + 1) (vs ++ [.slice gr x.length cr])) vc ∧ va = vc.setCell ⟨Bx, 0, none⟩ (.slice (some ⟨g, 0, none⟩) (S.B.length + 1) c)) :
  GrowB va base Bx ⟨some ⟨g, 0, none⟩, c, A.a1, A.c1, A.a2, A.c2⟩ ⟨S.B ++ [x], S.V, S.M⟩ ∧ Kp base Bx wr va := by
 obtain ⟨vc, ha, rfl⟩ := hf
 refine ⟨?_, ha.kp hbs (fun q hq => (World.ownsRow.lt hvs q hq).1) _ _ _⟩
 have hX := ha.box (Bx := Bx) h.box (fun v hv q e hq => by subst hq; obtain ⟨c7, h7⟩ := owns_block (owns_below hvs hv) e; have h8 := (hv.block _ h.lt).trans h.box; rw [h7] at h8; simp at h8)
 obtain ⟨vb, h1, h2, h3, h4⟩ := ha
 have e : (S.B ++ [x]).length = S.B.length + 1 := by simp
 have ho := OwnYY.more hin hbs h1 h2 hvs h3 (by rw [e]; exact h4)
 rw [e] at ho
 refine ⟨by rw [heap_set_self hX]; simp [sgC], ?_⟩
 rw [e]
 exact ho.keptT (Only.set vc Bx 0 _) (fun q cur e => by cases e; exact not_typ ⟨_, hX⟩ (by decide) cur) (fun q cur e => by cases e; exact not_typ ⟨_, hX⟩ (by decide) cur)
theorem drop_tidyS (lv : Int) (T : List Y) (S : SG) (h : 1 ≤ S.B.length) : dropSG lv T S = tidyS ⟨S.B.map (outD lv T), S.V, S.M⟩ := by
 obtain ⟨B, V, M⟩ := S
 cases B with
 | nil => simp at h
 | cons b B => rfl
end Go.Proofs.YtodjmpocpfkpaaaGreat
namespace Go.Proofs.YtodjmpocpfkpaaaGreat
open Go.RowKit

theorem symOkB_iff {n : Int} {p : Y} : symOkB n p.1 p.2 = true ↔ symP n p := by
  unfold symOkB symP
  simp only [Bool.and_eq_true, btw_iff]
def rnY (v c : Int) (p : Y) : Y := if p.1 = v then (v, p.2 - c) else p
def renB (v c : Int) (l : List Y) : List Y := l.map (rnY v c)
def goneY (n v c : Int) (l : List Y) : List Y := l.filter fun p => !symOkB n v (p.2 - c)
def shB (n v c : Int) (l : List Y) : List Y := (l.map (rnY v c)).filter fun p => symOkB n p.1 p.2
theorem gone_no {n v c : Int} {l : List Y} {i : Nat} {x : Y} (hx : l[i]? = some x) (h : symOkB n v (x.2 - c) = true) : goneY n v c (l.take (i + 1)) = goneY n v c (l.take i) := by
  obtain ⟨hi, rfl⟩ := List.getElem?_eq_some_iff.1 hx
  unfold goneY
  rw [List.take_succ_eq_append_getElem hi, List.filter_append]
  simp [h]
theorem gone_yes {n v c : Int} {l : List Y} {i : Nat} {x : Y} (hx : l[i]? = some x) (h : symOkB n v (x.2 - c) = false) : goneY n v c (l.take (i + 1)) = goneY n v c (l.take i) ++ [x] := by
  obtain ⟨hi, rfl⟩ := List.getElem?_eq_some_iff.1 hx
  unfold goneY
  rw [List.take_succ_eq_append_getElem hi, List.filter_append]
  simp [h]
theorem gone_len (n v c : Int) (l : List Y) : (goneY n v c l).length ≤ l.length := List.length_filter_le _ _
theorem sh_no {n v c : Int} {l : List Y} {i : Nat} {x : Y} (hx : l[i]? = some x) (h : symOkB n (rnY v c x).1 (rnY v c x).2 = false) : shB n v c (l.take (i + 1)) = shB n v c (l.take i) := by
  obtain ⟨hi, rfl⟩ := List.getElem?_eq_some_iff.1 hx
  unfold shB
  rw [List.take_succ_eq_append_getElem hi, List.map_append, List.filter_append]
  simp [h]
theorem sh_yes {n v c : Int} {l : List Y} {i : Nat} {x : Y} (hx : l[i]? = some x) (h : symOkB n (rnY v c x).1 (rnY v c x).2 = true) : shB n v c (l.take (i + 1)) = shB n v c (l.take i) ++ [rnY v c x] := by
  obtain ⟨hi, rfl⟩ := List.getElem?_eq_some_iff.1 hx
  unfold shB
  rw [List.take_succ_eq_append_getElem hi, List.map_append, List.filter_append]
  simp [h]
theorem sh_len (n v c : Int) (l : List Y) : (shB n v c l).length ≤ l.length := by
  unfold shB
  exact Nat.le_trans (List.length_filter_le _ _) (by simp)
theorem mem_tv {v : Int} : ∀ {B : List (List Y)} {b : List Y} {p : Y}, b ∈ B → p ∈ b → p.1 = v → p ∈ tv v B
  | [], _, _, h, _, _ => by simp at h
  | a :: B, b, p, h, hp, hv => by
    simp only [tv, List.mem_append]
    rcases List.mem_cons.1 h with e | e
    · subst e; exact .inl (by simp [wv, hp, hv])
    · exact .inr (mem_tv e hp hv)
theorem sh_drop {n lv v c : Int} {S : SG} (hok : OkS n lv S.B S.V S.M) (h1 : 1 ≤ v) (h2 : v ≠ lv) {b : List Y} (hb : b ∈ S.B) : renB v c (outD lv (goneY n v c (tv v S.B)) b) = shB n v c b := by
  unfold renB shB outD
  rw [List.filter_map]
  congr 1
  refine List.filter_congr fun p hp => ?_
  show keepD lv (goneY n v c (tv v S.B)) p = symOkB n (rnY v c p).1 (rnY v c p).2
  by_cases e : p.1 = v
  · have e0 : p ≠ (0, 0) := fun h => by rw [h] at e; simp at e; omega
    have el : p ≠ (lv, 0) := fun h => by rw [h] at e; exact h2 e.symm
    have hm := mem_tv hb hp e
    have er : rnY v c p = (v, p.2 - c) := by simp [rnY, e]
    rw [er]
    unfold keepD goneY
    cases hs : symOkB n v (p.2 - c) <;> simp [e0, el, hm, hs]
  · have er : rnY v c p = p := by simp [rnY, e]
    have hg : p ∉ goneY n v c (tv v S.B) := fun h => e (tv_is (List.mem_filter.1 h).1)
    rw [er, symOkB_iff.2 ((hok.rows b hb).sym p hp)]
    unfold keepD
    simp [hg]
theorem tidyR_map (f : List Y → List Y) (hf : ∀ b, f b = [] ↔ b = []) : ∀ (B : List (List Y)) (V : List VV) (M : List Bool) (v : VV) (mb : Bool), tidyR v mb (B.map f) V M = ((tidyR v mb B V M).1.map f, (tidyR v mb B V M).2.1, (tidyR v mb B V M).2.2)
  | [], _, _, _, _ => by simp [tidyR]
  | _ :: _, [], _, _, _ => by simp [tidyR]
  | _ :: _, _ :: _, [], _, _ => by simp [tidyR]
  | b :: B, x :: V, m :: M, v, mb => by
    by_cases e : b = []
    · have e2 : f b = [] := (hf b).2 e
      rw [List.map_cons, tidyR, if_pos e2, tidyR_map f hf B V M, tidyR, if_pos e]
    · have e2 : ¬ f b = [] := fun h => e ((hf b).1 h)
      rw [List.map_cons, tidyR, if_neg e2, tidyR_map f hf B V M noneV true, tidyR, if_neg e]
      rfl
theorem ren_nil {v c : Int} (b : List Y) : renB v c b = [] ↔ b = [] := by simp [renB]
def shS (n v c : Int) (S : SG) : SG := tidyS ⟨S.B.map (shB n v c), S.V, S.M⟩
def renK (v c : Int) (k : Lk) : Lk := ⟨renB v c k.b, k.v, k.m⟩
/-- What a shift comes to: the program's dropping and renaming, the specification's tidying. -/
theorem shift_all {n lv v c : Int} {S : SG} {m : List Y} (hok : OkS n lv S.B S.V S.M) (h1 : 1 ≤ v) (h2 : v ≠ lv) (hm : IsSet m [goneY n v c (tv v S.B)].flatten) : segL ((dropL ((linksOf S.B S.V S.M).map (filL m))).map (renK v c)) = shS n v c S := by
  have hG : ∀ p, p ∈ m ↔ p ∈ goneY n v c (tv v S.B) ∧ p ≠ (0, 0) ∧ p ≠ (lv, 0) := fun p => by
    have a := hm.mem p
    simp at a
    rw [a]
    refine ⟨fun h => ⟨h, fun e => ?_, fun e => ?_⟩, fun h => h.1⟩
    · have := tv_is (List.mem_filter.1 h).1; subst e; simp at this; omega
    · have := tv_is (List.mem_filter.1 h).1; subst e; exact h2 this.symm
  have h := drop_all S hG hok.v hok.m (.inr hok.last) hok.vals
  rw [drop_tidyS lv _ S hok.k1] at h
  obtain ⟨ks, hks⟩ : ∃ z, dropL ((linksOf S.B S.V S.M).map (filL m)) = z := ⟨_, rfl⟩
  rw [hks] at h ⊢
  have e1 : segL (ks.map (renK v c)) = ⟨(segL ks).B.map (renB v c), (segL ks).V, (segL ks).M⟩ := by
    simp only [segL, List.map_dropLast, List.map_map]
    rfl
  rw [e1, h]
  unfold shS tidyS
  have e2 : (S.B.map (outD lv (goneY n v c (tv v S.B)))).map (renB v c) = S.B.map (shB n v c) := by
    rw [List.map_map]
    exact List.map_congr_left fun b hb => sh_drop hok h1 h2 hb
  have e3 := tidyR_map (renB v c) ren_nil (S.B.map (outD lv (goneY n v c (tv v S.B)))).tail S.V S.M noneV true
  rw [List.map_tail, e2] at e3
  simp only [e3, SG.mk.injEq, and_self, and_true]
  simp only [List.map_cons]
  congr 1
  rw [← e2]
  cases S.B.map (outD lv (goneY n v c (tv v S.B))) with
  | nil => rfl
  | cons b B => rfl
/-- A row that is written leaves links alone whose terms lie elsewhere. -/
theorem LinkO.keptRow {w w' : World} {base X g : Nat} {k : Lk} {p : Option Addr} (h : LinkO w base X k p) (hO : Only g w w') (hg : ∃ cur, w.heap[g]? = some (.cells cur 65 (0, 0))) (hne : rowB w X ≠ some g) : LinkO w' base X k p := by
  obtain ⟨ao, cap, h1, h2⟩ := h.mem
  refine ⟨⟨ao, cap, (hO.block X h.lt (fun e => by cases e; obtain ⟨c, hc⟩ := hg; rw [hc] at h1; simp at h1)).trans h1, h2.keptBy hO (fun q hq e => ?_)⟩, h.lo⟩
  rw [rowB_of h1] at hne
  cases e
  exact hne hq
theorem Ch.keptRow {w w' : World} {base g : Nat} (hO : Only g w w') (hg : ∃ cur, w.heap[g]? = some (.cells cur 65 (0, 0))) : ∀ {L : List (Nat × Lk)} {p q : Option Addr}, (∀ x, x ∈ L → rowB w x.1 ≠ some g) → Ch w base L p q → Ch w' base L p q
  | [], _, _, _, h => h
  | x :: _, _, _, hn, ⟨e, p', h1, h2⟩ => ⟨e, p', h1.keptRow hO hg (hn x List.mem_cons_self), Ch.keptRow hO hg (fun y hy => hn y (List.mem_cons_of_mem _ hy)) h2⟩
theorem rows_parts {w : World} {L R : List (Nat × Lk)} {x : Nat × Lk} {g : Nat} (h : RowsD w ((L ++ x :: R).map Prod.fst)) (hx : rowB w x.1 = some g) : (∀ y, y ∈ L → rowB w y.1 ≠ some g) ∧ (∀ y, y ∈ R → rowB w y.1 ≠ some g) := by
  unfold RowsD at h
  rw [List.map_append, List.map_cons, List.pairwise_append, List.pairwise_cons] at h
  refine ⟨fun y hy e => ?_, fun y hy e => ?_⟩
  · exact h.2.2 y.1 (List.mem_map_of_mem hy) x.1 List.mem_cons_self g e hx
  · exact h.2.1.1 y.1 (List.mem_map_of_mem hy) g hx e
def nxs : List (Nat × Lk) → Option Addr
  | [] => none
  | x :: _ => some ⟨x.1, 0, none⟩
theorem Ch.nxs {w : World} {base : Nat} {R : List (Nat × Lk)} {p : Option Addr} (h : Ch w base R p none) : p = Go.Proofs.YtodjmpocpfkpaaaGreat.nxs R := by
  cases R with
  | nil => exact h
  | cons x R => exact h.1
/-- What holds while terms are renamed in place: the links of P are done, ka is at work. -/
structure ShI (w wr : World) (base Q X : Nat) (q : Array Value) (L : List (Nat × Lk)) : Prop where
  ch : Ch wr base L (some ⟨X, 0, none⟩) none
  nd : (L.map Prod.fst).Nodup
  rd : RowsD wr (L.map Prod.fst)
  bel : Below base w wr
  q : wr.heap[Q]? = some (.cells q 51 (0, 0))
  sz : base ≤ wr.heap.size
theorem ShI.below {w wr z : World} {base Q X : Nat} {q : Array Value} {L : List (Nat × Lk)} (h : ShI w wr base Q X q L) (hb : Below wr.heap.size wr z) : ShI w z base Q X q L :=
  ⟨h.ch.below hb, h.nd, h.ch.rows_below h.rd hb, h.bel.trans (hb.mono h.sz), (hb.block Q (heap_lt h.q)).trans h.q, Nat.le_trans h.sz hb.size⟩
theorem Ch.typ {w : World} {base : Nat} : ∀ {L : List (Nat × Lk)} {p q : Option Addr}, Ch w base L p q → ∀ x, x ∈ L → ∃ cur, w.heap[x.1]? = some (.cells cur 109 (0, 0))
  | [], _, _, _, x, hx => by simp at hx
  | y :: _, _, _, ⟨e, p', h1, h2⟩, x, hx => by
    rcases List.mem_cons.1 hx with rfl | hx
    · exact h1.typ
    · exact Ch.typ h2 x hx
/-- The terms of one link are written in place. -/
theorem ShI.wrote {w wr z : World} {base Q X Xa g : Nat} {q : Array Value} {P R : List (Nat × Lk)} {ka : Lk} {l' : List Y} {cap : Nat} (h : ShI w wr base Q X q (P ++ (Xa, ka) :: R)) (hO : Only g wr z) (hrow : rowB wr Xa = some g) (hcell : wr.cell? ⟨Xa, 0, none⟩ = some (.slice (some ⟨g, 0, none⟩) l'.length cap)) (hl : l'.length = ka.b.length) (ho : Own eY 65 z base (.slice (some ⟨g, 0, none⟩) l'.length cap) l') : ShI w z base Q X q (P ++ (Xa, ⟨l', ka.v, ka.m⟩) :: R) := by
  obtain ⟨hP, p', hA, hR⟩ := h.ch.cut
  obtain ⟨n1, n2⟩ := rows_parts h.rd hrow
  have hA : LinkO wr base Xa ka p' := hA
  obtain ⟨ao, cap', h1, h2⟩ := hA.mem
  have e0 := heap_cell h1 0
  simp only [lkC] at e0
  simp at e0
  rw [hcell] at e0
  simp only [Option.some.injEq, Value.slice.injEq] at e0
  obtain ⟨ea, eb, ec⟩ := e0
  subst ea
  subst ec
  obtain ⟨cur, hg⟩ : ∃ cur, wr.heap[g]? = some (.cells cur 65 (0, 0)) := h2.block rfl
  have hlo : base ≤ g := (h2.lt rfl).1
  have hX1 : z.heap[Xa]? = wr.heap[Xa]? := hO.block Xa hA.lt (fun e => by cases e; rw [hg] at h1; simp at h1)
  have hk : LinkO z base Xa ⟨l', ka.v, ka.m⟩ p' := ⟨⟨some ⟨g, 0, none⟩, cap, by rw [hX1, h1, hl], ho⟩, hA.lo⟩
  refine ⟨Ch.app (hP.keptRow hO ⟨_, hg⟩ n1) ⟨rfl, p', hk, hR.keptRow hO ⟨_, hg⟩ n2⟩, nd_same h.nd, ?_, Only.below h.bel hO h.sz hlo, (hO.block Q (heap_lt h.q) (fun e => by cases e; have := h.q; rw [hg] at this; simp at this)).trans h.q, Nat.le_trans h.sz hO.size⟩
  have hr : RowsD wr ((P ++ (Xa, (⟨l', ka.v, ka.m⟩ : Lk)) :: R).map Prod.fst) := by simpa using h.rd
  refine hr.same fun x hx => rowB_block (hO.block x ?_ ?_)
  · have hx2 : x ∈ (P ++ (Xa, ka) :: R).map Prod.fst := by simpa using hx
    obtain ⟨y, hy, rfl⟩ := List.mem_map.1 hx2
    exact h.ch.lt y hy
  · intro e
    cases e
    have hx2 : g ∈ (P ++ (Xa, ka) :: R).map Prod.fst := by simpa using hx
    obtain ⟨y, hy, ey⟩ := List.mem_map.1 hx2
    obtain ⟨c, hc⟩ := Ch.typ h.ch y hy
    rw [ey, hg] at hc
    simp at hc
end Go.Proofs.YtodjmpocpfkpaaaGreat
namespace Go.Proofs.YtodjmpocpfkpaaaGreat
open Go.RowKit

def selI (b : Bool) (x y : Int) : Int := match b with | true => x | false => y
structure RnI (X : Nat) (n v z : Int) (w0 x : World) (b : Bool) : Prop where
  bel : Below X w0 x
  sz : X + 4 ≤ x.heap.size
  n0 : x.cell? ⟨X, 0, none⟩ = some (.int .i64 n)
  c0 : x.cell? ⟨X + 1 + 1 + 1, 0, none⟩ = some (.int .i64 v)
  c1 : x.cell? ⟨X + 1 + 1 + 1, 1, none⟩ = some (.int .i64 z)
  f0 : x.frozen? ⟨X + 1 + 1, 0, none⟩ = false
  f1 : x.frozen? ⟨X + 1 + 1, 1, none⟩ = false
  e0 : x.cell? ⟨X + 1 + 1, 0, none⟩ = some (.int .i64 (selI b v 0))
  e1 : x.cell? ⟨X + 1 + 1, 1, none⟩ = some (.int .i64 (selI b z 0))
theorem RnI.below {X : Nat} {n v z : Int} {w0 x x' : World} {b : Bool} (h : RnI X n v z w0 x b) (hb : Below x.heap.size x x') : RnI X n v z w0 x' b := by
  obtain ⟨hc, hf⟩ := bcell hb
  have := h.sz
  exact ⟨h.bel.trans (hb.mono (by omega)), Nat.le_trans h.sz hb.size, (hc _ _ (by omega)).trans h.n0, (hc _ _ (by omega)).trans h.c0, (hc _ _ (by omega)).trans h.c1, (hf _ _ (by omega)).trans h.f0, (hf _ _ (by omega)).trans h.f1, (hc _ _ (by omega)).trans h.e0, (hc _ _ (by omega)).trans h.e1⟩
theorem RnI.put {X : Nat} {n v z : Int} {w0 x : World} {b : Bool} (h : RnI X n v z w0 x b) : RnI X n v z w0 ((x.setCell ⟨X + 1 + 1, 0, none⟩ (.int .i64 v)).setCell ⟨X + 1 + 1, 1, none⟩ (.int .i64 z)) true := by
  obtain ⟨h0, h1, h2, h3, h4, h5, h6, h7, h8⟩ := h
  refine ⟨(h0.setCell (p := ⟨X + 1 + 1, 0, none⟩) (by show X ≤ X + 1 + 1; omega) _).setCell (p := ⟨X + 1 + 1, 1, none⟩) (by show X ≤ X + 1 + 1; omega) _, by simpa [go_sem] using h1, ?_, ?_, ?_, ?_, ?_, ?_, ?_⟩
  all_goals simp [go_sem, selI, *]
set_option maxRecDepth 100000 in
set_option maxHeartbeats 3200000 in
theorem renamed_any (n v u c : Int) (t : Y) (w : World) (ht : -1000 ≤ t.2 ∧ t.2 ≤ 1000) (hc : -2000000 ≤ c ∧ c ≤ 2000000) :
    Calls Tryz.prog 75 #[.agg #[.int .i64 n, .int .i64 v, .int .i64 u, .int .i64 c], .agg #[.int .i64 t.1, .int .i64 t.2]] w fun e w' => e = .returned (.tuple #[.agg #[.int .i64 v, .int .i64 (t.2 - c)], .bool (symOkB n v (t.2 - c))]) ∧ Below w.heap.size w w' := by
  have hwz : IntKind.i64.wrap (t.2 - c) = t.2 - c := IntWalk.i64_in _ (by omega)
  obtain ⟨z, hz⟩ : ∃ z, t.2 - c = z := ⟨_, rfl⟩
  rw [hz] at hwz ⊢
  obtain ⟨X, hX⟩ : ∃ z, w.heap.size = z := ⟨_, rfl⟩
  obtain ⟨w3, hw3⟩ : ∃ x : World, (((w.alloc (.cells #[.int .i64 n, .int .i64 v, .int .i64 u, .int .i64 c] 51)).alloc (.cells #[.int .i64 t.1, .int .i64 t.2] 65)).alloc (.cells #[.int .i64 0, .int .i64 0] 65)).alloc (.cells #[.int .i64 v, .int .i64 z] 65) = x := ⟨_, rfl⟩
  have HI : Hid (RnI X n v z w w3 false) := mkHid (by
    rw [← hw3, ← hX]
    refine ⟨bl_alloc (bl_alloc (bl_alloc (bl_alloc (Below.refl _ _) _) _) _) _, by simp, ?_, ?_, ?_, ?_, ?_, ?_, ?_⟩
    all_goals simp [go_sem, selI])
  have HX := mkHid hX
  clear ht hc
  go_enter Tryz.func75, Tryz.ntmps75
  go_wp2_with fail
  clear hw3 hX hz hwz
  refine wp_region_inv2 (fun zA0 L zA va => ∃ (zB : Nat → Bool) (zS : Nat → Value), L = #[zB 0, zB 1, zB 2, zB 3, zB 4, zB 5, zB 6] ∧ zA = puts zA0 [(15, zS 15), (16, zS 16), (17, zS 17), (18, zS 18), (19, zS 19), (5, zS 5)] ∧ ((zB 0 = true → zS 15 = .agg #[.int .i64 v, .int .i64 z]) ∧ (zB 1 = true → zS 16 = .pointer (some ⟨X, 0, none⟩)) ∧ (zB 2 = true → zS 17 = .int .i64 n) ∧ (zB 3 = true → zS 18 = .agg #[.int .i64 v, .int .i64 z]) ∧ (zB 4 = true → zS 19 = .bool (symOkB n v z)) ∧ (zB 6 = true → zS 5 = .bool (symOkB n v z))) ∧ RnI X n v z w va (zB 5)) (by kernel_rfl) ?_ ?_ ?_
  · exact ⟨fun _ => false, fun zd => if zd = 5 then .bool false else undef, rfl, by kernel_rfl, ⟨fun e => ft e, fun e => ft e, fun e => ft e, fun e => ft e, fun e => ft e, fun e => ft e⟩, ⟨HI.out.bel.drew, HI.out.sz, HI.out.n0, HI.out.c0, HI.out.c1, HI.out.f0, HI.out.f1, HI.out.e0, HI.out.e1⟩⟩
  · refine StepsI.cons rfl ?_ ?_
    · rintro L zA va ⟨zB, zS, rfl, rfl, hF, hW⟩ hL hm K hK
      have hb0 : zB 0 = false := by simpa using hL
      clear hL hm
      simp only [puts, Act.put, List.setIfInBounds_toArray, List.set_cons_zero, List.set_cons_succ]
      have q0 := hW.c0
      have q1 := hW.c1
      go_simp
      exact hK.out _ _ ⟨fun zj => if zj = 0 then true else zB zj, fun zd => if zd = 15 then .agg #[.int .i64 v, .int .i64 z] else zS zd, rfl, by kernel_rfl, ⟨fun _ => rfl, hF.2.1, hF.2.2.1, hF.2.2.2.1, hF.2.2.2.2.1, hF.2.2.2.2.2⟩, hW⟩
    refine StepsI.cons rfl ?_ ?_
    · rintro L zA va ⟨zB, zS, rfl, rfl, hF, hW⟩ hL hm K hK
      have hb1 : zB 1 = false := by simpa using hL
      clear hL hm
      simp only [puts, Act.put, List.setIfInBounds_toArray, List.set_cons_zero, List.set_cons_succ]
      go_simp
      exact hK.out _ _ ⟨fun zj => if zj = 1 then true else zB zj, fun zd => if zd = 16 then .pointer (some ⟨X, 0, none⟩) else zS zd, rfl, by kernel_rfl, ⟨hF.1, fun _ => rfl, hF.2.2.1, hF.2.2.2.1, hF.2.2.2.2.1, hF.2.2.2.2.2⟩, hW⟩
    refine StepsI.cons rfl ?_ ?_
    · rintro L zA va ⟨zB, zS, rfl, rfl, hF, hW⟩ hL hm K hK
      have hb2 : zB 2 = false := by simpa using hL
      have hb1 : zB 1 = true := by cases e : zB 1 with | false => (exfalso; revert hm; simp [metB, Region.binds, e]) | true => rfl
      have e1 : zS 16 = .pointer (some ⟨X, 0, none⟩) := hF.2.1 hb1
      clear hL hm
      simp only [puts, Act.put, List.setIfInBounds_toArray, List.set_cons_zero, List.set_cons_succ]
      simp only [e1]
      have q0 := hW.n0
      go_simp
      exact hK.out _ _ ⟨fun zj => if zj = 1 then true else if zj = 2 then true else zB zj, fun zd => if zd = 17 then .int .i64 n else if zd = 16 then .pointer (some ⟨X, 0, none⟩) else zS zd, by simp [hb1], by kernel_rfl, ⟨hF.1, fun _ => rfl, fun _ => rfl, hF.2.2.2.1, hF.2.2.2.2.1, hF.2.2.2.2.2⟩, hW⟩
    refine StepsI.cons rfl ?_ ?_
    · rintro L zA va ⟨zB, zS, rfl, rfl, hF, hW⟩ hL hm K hK
      have hb3 : zB 3 = false := by simpa using hL
      clear hL hm
      simp only [puts, Act.put, List.setIfInBounds_toArray, List.set_cons_zero, List.set_cons_succ]
      have q0 := hW.c0
      have q1 := hW.c1
      go_simp
      exact hK.out _ _ ⟨fun zj => if zj = 3 then true else zB zj, fun zd => if zd = 18 then .agg #[.int .i64 v, .int .i64 z] else zS zd, rfl, by kernel_rfl, ⟨hF.1, hF.2.1, hF.2.2.1, fun _ => rfl, hF.2.2.2.2.1, hF.2.2.2.2.2⟩, hW⟩
    refine StepsI.cons rfl ?_ ?_
    · rintro L zA va ⟨zB, zS, rfl, rfl, hF, hW⟩ hL hm K hK
      have hb4 : zB 4 = false := by simpa using hL
      have hb2 : zB 2 = true := by cases e : zB 2 with | false => (exfalso; revert hm; simp [metB, Region.binds, e]) | true => rfl
      have hb3 : zB 3 = true := by cases e : zB 3 with | false => (exfalso; revert hm; simp [metB, Region.binds, e]) | true => rfl
      have e2 : zS 17 = .int .i64 n := hF.2.2.1 hb2
      have e3 : zS 18 = .agg #[.int .i64 v, .int .i64 z] := hF.2.2.2.1 hb3
      clear hL hm
      simp only [puts, Act.put, List.setIfInBounds_toArray, List.set_cons_zero, List.set_cons_succ]
      simp only [e2, e3]
      go_simp
      refine (iSymOk_any n v z _).mono ?_
      rintro e v2 ⟨rfl, hb⟩
      go_simp
      exact hK.out _ _ ⟨fun zj => if zj = 3 then true else if zj = 2 then true else if zj = 4 then true else zB zj, fun zd => if zd = 19 then .bool (symOkB n v z) else if zd = 18 then .agg #[.int .i64 v, .int .i64 z] else if zd = 17 then .int .i64 n else zS zd, by simp [hb2, hb3], by kernel_rfl, ⟨hF.1, hF.2.1, fun _ => rfl, fun _ => rfl, fun _ => rfl, hF.2.2.2.2.2⟩, hW.below hb⟩
    refine StepsI.cons rfl ?_ ?_
    · rintro L zA va ⟨zB, zS, rfl, rfl, hF, hW⟩ hL hm K hK
      have hb5 : zB 5 = false := by simpa using hL
      have hb0 : zB 0 = true := by cases e : zB 0 with | false => (exfalso; revert hm; simp [metB, Region.binds, e]) | true => rfl
      have e0 : zS 15 = .agg #[.int .i64 v, .int .i64 z] := hF.1 hb0
      clear hL hm
      rw [hb5] at hW
      simp only [puts, Act.put, List.setIfInBounds_toArray, List.set_cons_zero, List.set_cons_succ]
      simp only [e0]
      have q0 := hW.f0
      have q1 := hW.f1
      have q2 := hW.e0
      have q3 := hW.e1
      go_simp
      exact hK.out _ _ ⟨fun zj => if zj = 0 then true else if zj = 5 then true else zB zj, fun zd => if zd = 15 then .agg #[.int .i64 v, .int .i64 z] else zS zd, by simp [hb0], by kernel_rfl, ⟨fun _ => rfl, hF.2.1, hF.2.2.1, hF.2.2.2.1, hF.2.2.2.2.1, hF.2.2.2.2.2⟩, hW.put⟩
    refine StepsI.cons rfl ?_ ?_
    · rintro L zA va ⟨zB, zS, rfl, rfl, hF, hW⟩ hL hm K hK
      have hb6 : zB 6 = false := by simpa using hL
      have hb4 : zB 4 = true := by cases e : zB 4 with | false => (exfalso; revert hm; simp [metB, Region.binds, e]) | true => rfl
      have e4 : zS 19 = .bool (symOkB n v z) := hF.2.2.2.2.1 hb4
      clear hL hm
      simp only [puts, Act.put, List.setIfInBounds_toArray, List.set_cons_zero, List.set_cons_succ]
      simp only [e4]
      go_simp
      exact hK.out _ _ ⟨fun zj => if zj = 4 then true else if zj = 6 then true else zB zj, fun zd => if zd = 5 then .bool (symOkB n v z) else if zd = 19 then .bool (symOkB n v z) else zS zd, by simp [hb4], by kernel_rfl, ⟨hF.1, hF.2.1, hF.2.2.1, hF.2.2.2.1, fun _ => rfl, fun _ => rfl⟩, hW⟩
    exact StepsI.nil (by kernel_rfl)
  · rintro L zA va ⟨zB, zS, rfl, rfl, hF, hW⟩ hr
    have hu := all_up (by kernel_rfl) (N := 7) (by kernel_rfl) hr
    have hb0 : zB 0 = true := by simpa using hu 0 (by decide)
    have hb1 : zB 1 = true := by simpa using hu 1 (by decide)
    have hb2 : zB 2 = true := by simpa using hu 2 (by decide)
    have hb3 : zB 3 = true := by simpa using hu 3 (by decide)
    have hb4 : zB 4 = true := by simpa using hu 4 (by decide)
    have hb5 : zB 5 = true := by simpa using hu 5 (by decide)
    have hb6 : zB 6 = true := by simpa using hu 6 (by decide)
    have e0 : zS 15 = .agg #[.int .i64 v, .int .i64 z] := hF.1 hb0
    have e1 : zS 16 = .pointer (some ⟨X, 0, none⟩) := hF.2.1 hb1
    have e2 : zS 17 = .int .i64 n := hF.2.2.1 hb2
    have e3 : zS 18 = .agg #[.int .i64 v, .int .i64 z] := hF.2.2.2.1 hb3
    have e4 : zS 19 = .bool (symOkB n v z) := hF.2.2.2.2.1 hb4
    have e6 : zS 5 = .bool (symOkB n v z) := hF.2.2.2.2.2 hb6
    rw [hb5] at hW
    clear hu hr hF
    simp only [puts, Act.put, List.setIfInBounds_toArray, List.set_cons_zero, List.set_cons_succ]
    simp only [e0, e1, e2, e3, e4, e6]
    clear e0 e1 e2 e3 e4 e6
    clear hb0 hb1 hb2 hb3 hb4 hb5 hb6
    clear zB zS
    have HW := mkHid hW
    have q2 := hW.e0
    have q3 := hW.e1
    simp only [selI] at q2 q3
    clear hW
    go_wp2
    refine bodyPost_ret (v := .tuple #[.agg #[.int .i64 v, .int .i64 z], .bool (symOkB n v z)]) (by simp [results, Tryz.results75, go_sem, *]) rfl ⟨rfl, by rw [HX.out]; exact HW.out.bel⟩
end Go.Proofs.YtodjmpocpfkpaaaGreat
