/-
  CONTRACTS of slices.BinarySearchFunc over terms and of orderedSet.has.
  CONTRACT of orderedSet.has over terms.
  CONTRACT of orderedSet.without over terms.
  CONTRACTS of slices.Clone over terms and of orderedSet.isEmpty.
  CONTRACT of the specification's l10Without.
  CONTRACTS of both ValJoins and of what brings two flagged pairs together.
  PURE: the program's dropping over a row of links against the specification's tidying.
  PURE: what SegDrop gives, by the program's links and by the specification's tidying.
  CONTRACT of the program's dropping of terms out of a row of links.
-/
import Derived.Test.YtihpajiololfoaaGreatSh09
import Derived.Test.YtihpajiololfoaaGreatSh05
import Derived.Test.YtihpajiololfoaaGreatSh03
import Derived.Test.YtihpajiololfoaaGreatSh06
import Derived.Test.YtihpajiololfoaaGreatSh00
import Derived.Test.YtihpajiololfoaaGreatSh10
import Derived.Test.YtihpajiololfoaaGreatSh11
namespace Go.Proofs.YtihpajiololfoaaGreat
open Go.RowKit

end Go.Proofs.YtihpajiololfoaaGreat
namespace Go.Proofs.YtihpajiololfoaaGreat
open Go.RowKit

end Go.Proofs.YtihpajiololfoaaGreat
namespace Go.Proofs.YtihpajiololfoaaGreat
open Go.RowKit

theorem infoY : (Tryz.prog.info? 49).map (fun i => (i.zero, i.size, i.bytes)) = some (some (.agg #[.int .i64 0, .int .i64 0]), 2, 16) := by kernel_rfl
def outS (l m : List Y) : List Y := l.filter fun p => decide (p ∉ m)
theorem two_new (w : World) (a b : Value) (T : TypeId) (j : Nat) (u : Value) (h : [a, b][j]? = some u) : (w.alloc (.cells #[a, b] T)).cell? ((⟨w.heap.size, 0, none⟩ : Addr).add j) = some u := by
 rw [WideShapes.add_plain, Nat.zero_add, World.cell?_alloc_new]
 simpa using h
/-- The boxes of without: the others, the answer's, what is left. -/
structure WoAt (v : World) (X : Nat) (am : Option Addr) (k cm : Nat) (s : Value) : Prop where
 sz : X + 4 ≤ v.heap.size
 o0 : v.cell? ⟨X + 1, 0, none⟩ = some (.slice am k cm)
 o1 : v.cell? ⟨X + 1, 1, none⟩ = some (.func (.func 132) #[] #[])
 r0 : v.cell? ⟨X + 1 + 1, 0, none⟩ = some (.slice none 0 0)
 r1 : v.cell? ⟨X + 1 + 1, 1, none⟩ = some .nilFunc
 f0 : v.frozen? ⟨X + 1 + 1, 0, none⟩ = false
 f1 : v.frozen? ⟨X + 1 + 1, 1, none⟩ = false
 l0 : v.cell? ⟨X + 1 + 1 + 1, 0, none⟩ = some s
 l1 : v.cell? ⟨X + 1 + 1 + 1, 1, none⟩ = some (.func (.func 132) #[] #[])
 g0 : v.frozen? ⟨X + 1 + 1 + 1, 0, none⟩ = false
 g1 : v.frozen? ⟨X + 1 + 1 + 1, 1, none⟩ = false
theorem WoAt.keep {v v' : World} {X : Nat} {am : Option Addr} {k cm : Nat} {s : Value} (h : WoAt v X am k cm s) (hz : v.heap.size ≤ v'.heap.size) (hb : ∀ q, q < X + 4 → v'.heap[q]? = v.heap[q]?) : WoAt v' X am k cm s := by
 have e1 := hb (X + 1) (by omega)
 have e2 := hb (X + 1 + 1) (by omega)
 have e3 := hb (X + 1 + 1 + 1) (by omega)
 exact ⟨Nat.le_trans h.sz hz, (World.cell?_of_block (a := ⟨X + 1, 0, none⟩) e1).trans h.o0, (World.cell?_of_block (a := ⟨X + 1, 1, none⟩) e1).trans h.o1,
  (World.cell?_of_block (a := ⟨X + 1 + 1, 0, none⟩) e2).trans h.r0, (World.cell?_of_block (a := ⟨X + 1 + 1, 1, none⟩) e2).trans h.r1, (World.frozen?_of_block (a := ⟨X + 1 + 1, 0, none⟩) e2).trans h.f0, (World.frozen?_of_block (a := ⟨X + 1 + 1, 1, none⟩) e2).trans h.f1,
  (World.cell?_of_block (a := ⟨X + 1 + 1 + 1, 0, none⟩) e3).trans h.l0, (World.cell?_of_block (a := ⟨X + 1 + 1 + 1, 1, none⟩) e3).trans h.l1, (World.frozen?_of_block (a := ⟨X + 1 + 1 + 1, 0, none⟩) e3).trans h.g0, (World.frozen?_of_block (a := ⟨X + 1 + 1 + 1, 1, none⟩) e3).trans h.g1⟩
theorem WoAt.below {v v' : World} {X : Nat} {am : Option Addr} {k cm : Nat} {s : Value} (h : WoAt v X am k cm s) (hb : Below v.heap.size v v') : WoAt v' X am k cm s := h.keep hb.size fun q hq => hb.block q (by have := h.sz; omega)
theorem WoAt.put {v : World} {X : Nat} {am : Option Addr} {k cm : Nat} {s : Value} (h : WoAt v X am k cm s) (s' : Value) : WoAt (v.setCell ⟨X + 1 + 1 + 1, 0, none⟩ s') X am k cm s' := by
 obtain ⟨h0, h1, h2, h3, h4, h5, h6, h7, h8, h9, h10⟩ := h
 refine ⟨by simpa [go_sem] using h0, ?_, ?_, ?_, ?_, ?_, ?_, ?_, ?_, ?_, ?_⟩
 all_goals simp [go_sem, *]
end Go.Proofs.YtihpajiololfoaaGreat
namespace Go.Proofs.YtihpajiololfoaaGreat
open Go.RowKit

theorem fresh_y {w' : World} {g base : Nat} (hb : base ≤ g) (hg : w'.heap[g]? = some (.cells #[] 49 (0, 0))) : Own eY 49 w' base (.slice (some ⟨g, 0, none⟩) 0 0) [] :=
 ⟨rfl, .inr ⟨g, 0, #[], rfl, hb, hg, Nat.le_refl _, by unfold maxLen; omega, rfl, rfl⟩⟩
set_option maxRecDepth 100000 in
set_option maxHeartbeats 1600000 in
theorem clone_any (l : List Y) (ao : Option Addr) (cap : Nat) (w : World) (hn : l.length ≤ 1048576) (hl : At eY w ao l) :
  Calls Tryz.prog 91 #[.slice ao l.length cap] w fun e w' => Below w.heap.size w w' ∧ ∃ (g : Option Addr) (c : Nat), e = .returned (.slice g l.length c) ∧ Own eY 49 w' w.heap.size (.slice g l.length c) l := by
 obtain ⟨ti, hti, hz⟩ := Option.map_eq_some_iff.1 infoY
 simp only [Prod.mk.injEq] at hz
 obtain ⟨hz0, hz1, hz2⟩ := hz
 have HI := mkHid (show Tryz.prog.info? 49 = some ti ∧ ti.zero = some (.agg #[.int .i64 0, .int .i64 0]) ∧ ti.size = 2 ∧ ti.bytes = 16 from ⟨hti, hz0, hz1, hz2⟩)
 clear hti hz0 hz1 hz2
 have q34 : ∀ (w : World) (a : Option Addr) (n c n' c' : Nat), (binOp .eql 113 (.slice a n c) (.slice none n' c')).run Tryz.prog w = .ok (.bool a.isNone) w := fun w a n c n' c' => Lib.run_eql_slice_nil w 113 49 a n c n' c' Tryz.underlying113
 cases ao with
 | none =>
  obtain rfl : l = [] := by rcases hl with h | ⟨b, o, e, _⟩; exact h; cases e
  go_enter Tryz.func91, Tryz.ntmps91
  go_wp2
  go_ret
  exact ⟨Below.refl _ _, none, 0, rfl, Own.nil _ _ _ _⟩
 | some ad =>
  have HF : Hid (Own eY 49 (w.alloc (.cells #[] 49)) w.heap.size (.slice (some ⟨w.heap.size, 0, none⟩) 0 0) []) := mkHid (fresh_y (Nat.le_refl _) (by have := heap_alloc_new w (.cells #[] 49); simpa using this))
  have HL := mkHid hl
  clear hl
  rcases Nat.eq_zero_or_pos l.length with h0 | h0
  ·obtain rfl : l = [] := List.length_eq_zero_iff.1 h0
   go_enter Tryz.func91, Tryz.ntmps91
   go_wp2_with (at_builtin; refine wpList_append_zero _ rfl _ _ 113 rfl 49 ti Tryz.underlying113 HI.out.1 _ _ _ (Nat.le_refl 0) rfl _ _ rfl ?_)
   go_wp2
   go_ret
   exact ⟨bl_alloc (Below.refl _ _) _, _, 0, rfl, HF.out⟩
  ·obtain ⟨b, off, e, hlb, hq⟩ := HL.out.cons h0
   cases e
   go_enter Tryz.func91, Tryz.ntmps91
   go_wp2_with (at_builtin; refine wpList_append_lies _ rfl _ _ 113 rfl w.heap.size 49 ti (.agg #[.int .i64 0, .int .i64 0]) 2 16 Tryz.underlying113 HI.out.1 HI.out.2.1 HI.out.2.2.1 HI.out.2.2.2 rfl (by decide) _ 0 [] rfl HF.out ⟨b, off, none⟩ l.length cap (eY.flat l) rfl (eY.flat_len l) ?c1 ?c2 h0 ?c3 ?c4 ?c5 (w.heap.size + 1) (by simp) ?_)
   case c1 =>
    intro j u hu
    have hj : j < l.length * 2 := by have := (List.getElem?_eq_some_iff.1 hu).1; rw [El.flat_len] at this; exact this
    obtain ⟨x, hx⟩ : ∃ x, l[j / 2]? = some x := ⟨_, List.getElem?_eq_getElem (by omega)⟩
    have e : j / 2 * eY.k + j % 2 = j := by show j / 2 * 2 + j % 2 = j; omega
    have h1 := eY.flat_get hx (j := j % 2) (by show j % 2 < 2; omega)
    rw [e, hu] at h1
    have h2 := hq (j / 2) x hx (j % 2) u h1.symm
    rw [Nat.add_assoc, e] at h2
    rw [Addr.add_lit]
    exact ((bl_alloc (Below.refl w.heap.size w) _).cell (p := ⟨b, off + j, none⟩) hlb).trans h2
   case c2 =>
    intro u hu
    simp [El.flat, eY] at hu
    obtain ⟨p, q, _, h⟩ := hu
    rcases h with rfl | rfl <;> rfl
   case c3 => unfold maxLen; omega
   case c4 => omega
   case c5 => first | omega | (simp; done) | (simp; omega)
   intro g' c' w7 hown' hgrow hat' _
   have HB : Hid (Below w.heap.size w w7) := mkHid (((Below.refl w.heap.size w).alloc (Nat.le_refl _) _).grown hgrow (by simp) (fun q hq => by have := (HF.out.lt hq).1; omega))
   have HO : Hid (Own eY 49 w7 w.heap.size (.slice (some ⟨g', 0, none⟩) l.length c') l) := mkHid hown'
   clear hown' hgrow hat' hq
   go_wp2
   go_ret
   exact ⟨HB.out, _, c', rfl, HO.out⟩
end Go.Proofs.YtihpajiololfoaaGreat
namespace Go.Proofs.YtihpajiololfoaaGreat
open Go.RowKit

def keepD (lv : Int) (T : List Y) (p : Y) : Bool := decide (p = (0, 0)) || (decide (p = (lv, 0)) || decide (p ∉ T))
def outD (lv : Int) (T l : List Y) : List Y := l.filter (keepD lv T)
end Go.Proofs.YtihpajiololfoaaGreat
namespace Go.Proofs.YtihpajiololfoaaGreat
open Go.RowKit

def joinV (a b : Int) (s : Bool) (c d : Int) (t : Bool) : Int × Int × Bool := if okB a b && okB c d then ((joinM a b c d).1, (joinM a b c d).2, s && t) else (1, 0, true)
end Go.Proofs.YtihpajiololfoaaGreat
namespace Go.Proofs.YtihpajiololfoaaGreat
open Go.RowKit

def jv (x y : VV) : VV := joinV x.1 x.2.1 x.2.2 y.1 y.2.1 y.2.2
def noneV : VV := (1, 0, true)
/-- The program: the links that are left of at and those behind it (their bounds are already without the terms). -/
def dropK : Lk → List Lk → List Lk
 | at', [] => [at']
 | at', n :: r => if n.b = [] then dropK ⟨at'.b, jv at'.v n.v, at'.m && n.m⟩ r else at' :: dropK n r
/-- The specification: what is put out from the second bound on. -/
def tidyR (v : VV) (mb : Bool) : List (List Y) → List VV → List Bool → List (List Y) × List VV × List Bool
 | b :: B, x :: V, m :: M => if b = [] then tidyR (jv v x) (mb && m) B V M else
   (b :: (tidyR noneV true B V M).1, jv v x :: (tidyR noneV true B V M).2.1, (mb && m) :: (tidyR noneV true B V M).2.2)
 | _, _, _ => ([], [], [])
end Go.Proofs.YtihpajiololfoaaGreat
namespace Go.Proofs.YtihpajiololfoaaGreat
open Go.RowKit

def filL (G : List Y) (k : Lk) : Lk := ⟨outS k.b G, k.v, k.m⟩
def dropSG (lv : Int) (T : List Y) (S : SG) : SG :=
 match S.B.map (outD lv T) with
 | [] => noS
 | b :: B => ⟨b :: (tidyR noneV true B S.V S.M).1, (tidyR noneV true B S.V S.M).2.1, (tidyR noneV true B S.V S.M).2.2⟩
def segL (ks : List Lk) : SG := ⟨ks.map Lk.b, ks.dropLast.map Lk.v, ks.dropLast.map Lk.m⟩
end Go.Proofs.YtihpajiololfoaaGreat
namespace Go.Proofs.YtihpajiololfoaaGreat
open Go.RowKit

def sel {α : Type} (b : Bool) (x y : α) : α := match b with | true => x | false => y
theorem Ch.cut {w : World} {base : Nat} {x : Nat × Lk} {R : List (Nat × Lk)} {q : Option Addr} : ∀ {L : List (Nat × Lk)} {p : Option Addr}, Ch w base (L ++ x :: R) p q → Ch w base L p (some ⟨x.1, 0, none⟩) ∧ ∃ p', LinkO w base x.1 x.2 p' ∧ Ch w base R p' q
 | [], _, ⟨e, p', h1, h2⟩ => ⟨e, p', h1, h2⟩
 | _ :: _, _, ⟨e, p', h1, h2⟩ => by
  obtain ⟨a, b⟩ := Ch.cut h2
  exact ⟨⟨e, p', h1, a⟩, b⟩
/-- A link turned: what stands ahead of it and behind it stays. -/
theorem Ch.upd {w w' : World} {base : Nat} {L R : List (Nat × Lk)} {X : Nat} {k : Lk} {p q r : Option Addr} (hO : Only X w w') (hT : ∃ cur, w.heap[X]? = some (.cells cur 130 (0, 0))) (hL : Ch w base L p (some ⟨X, 0, none⟩)) (hk : LinkO w' base X k r) (hR : Ch w base R r q) (h1 : ∀ x, x ∈ L → x.1 ≠ X) (h2 : ∀ x, x ∈ R → x.1 ≠ X) : Ch w' base (L ++ (X, k) :: R) p q :=
 Ch.app (hL.kept hO hT h1) ⟨rfl, r, hk, hR.kept hO hT h2⟩
theorem nd_parts {L R : List (Nat × Lk)} {x : Nat × Lk} (h : ((L ++ x :: R).map Prod.fst).Nodup) : (∀ y, y ∈ L → y.1 ≠ x.1) ∧ (∀ y, y ∈ R → y.1 ≠ x.1) := by
 simp only [List.map_append, List.map_cons, List.nodup_append, List.nodup_cons] at h
 refine ⟨fun y hy e => ?_, fun y hy e => h.2.1.1 (e ▸ List.mem_map_of_mem hy)⟩
 exact h.2.2 y.1 (List.mem_map_of_mem hy) x.1 List.mem_cons_self e
theorem nd_same {L R : List (Nat × Lk)} {X : Nat} {k k' : Lk} (h : ((L ++ (X, k) :: R).map Prod.fst).Nodup) : ((L ++ (X, k') :: R).map Prod.fst).Nodup := by
 simpa using h
theorem nd_drop {L R : List (Nat × Lk)} {X : Nat} {k k' : Lk} {y : Nat × Lk} (h : ((L ++ (X, k) :: y :: R).map Prod.fst).Nodup) : ((L ++ (X, k') :: R).map Prod.fst).Nodup := by
 simp only [List.map_append, List.map_cons, List.nodup_append, List.nodup_cons] at h ⊢
 obtain ⟨h1, ⟨h2, h3, h4⟩, h5⟩ := h
 refine ⟨h1, ⟨fun e => h2 (List.mem_cons_of_mem _ e), h4⟩, fun a ha b hb => h5 a ha b ?_⟩
 rcases List.mem_cons.1 hb with e | e
 ·rw [e]; exact List.mem_cons_self
 ·exact List.mem_cons_of_mem _ (List.mem_cons_of_mem _ e)
/-- Below base nothing has turned, and nothing that is no link. -/
structure BK (base : Nat) (w w' : World) : Prop where
 bel : Below base w w'
 kt : ∀ (q : Nat) (o : Obj), w.heap[q]? = some o → (∀ cur, o ≠ .cells cur 130 (0, 0)) → w'.heap[q]? = some o
theorem BK.of {base : Nat} {w w' : World} (h : Below w.heap.size w w') (hb : base ≤ w.heap.size) : BK base w w' := ⟨h.mono hb, fun q _ ho _ => (h.block q (heap_lt ho)).trans ho⟩
theorem BK.step {base : Nat} {w a b : World} (h : BK base w a) (hb : Below a.heap.size a b) (hs : base ≤ a.heap.size) : BK base w b := ⟨h.bel.trans (hb.mono hs), fun q o ho hn => (hb.block q (heap_lt (h.kt q o ho hn))).trans (h.kt q o ho hn)⟩
theorem BK.only {base Z : Nat} {w a b : World} (h : BK base w a) (hO : Only Z a b) (hs : base ≤ a.heap.size) (hZ : base ≤ Z) (hT : ∃ cur, a.heap[Z]? = some (.cells cur 130 (0, 0))) : BK base w b :=
 ⟨Only.below h.bel hO hs hZ, fun q o ho hn => by
  have h1 := h.kt q o ho hn
  exact (hO.block q (heap_lt h1) (fun e => by cases e; obtain ⟨c, hc⟩ := hT; rw [hc] at h1; exact hn c (Option.some.inj h1).symm)).trans h1⟩
theorem BK.trans {base : Nat} {w a b : World} (h : BK base w a) (g : BK base a b) : BK base w b := ⟨h.bel.trans g.bel, fun q o ho hn => g.kt q o (h.kt q o ho hn) hn⟩
/-- A link has got new terms of its own. -/
theorem rows_upd {w w' : World} {base X : Nat} {k k' : Lk} {P R : List (Nat × Lk)} {p q p2 q2 : Option Addr} (hO : Only X w w') (hP : Ch w base P p q) (hR : Ch w base R p2 q2) (hnd : ((P ++ (X, k) :: R).map Prod.fst).Nodup) (hrd : RowsD w ((P ++ (X, k) :: R).map Prod.fst)) (hnew : ∀ b, rowB w' X = some b → w.heap.size ≤ b) : RowsD w' ((P ++ (X, k') :: R).map Prod.fst) := by
 obtain ⟨n1, n2⟩ := nd_parts hnd
 rw [List.map_append, List.map_cons] at hrd ⊢
 refine RowsD.upd (N := w.heap.size) hrd (fun x hx => ?_) (fun x hx => ?_) hnew
 ·rcases List.mem_append.1 hx with h | h
  ·obtain ⟨y, hy, rfl⟩ := List.mem_map.1 h
   exact rowB_block (hO.block _ (hP.lt y hy) (fun e => n1 y hy (Option.some.inj e)))
  ·obtain ⟨y, hy, rfl⟩ := List.mem_map.1 h
   exact rowB_block (hO.block _ (hR.lt y hy) (fun e => n2 y hy (Option.some.inj e)))
 ·rcases List.mem_append.1 hx with h | h
  ·exact hP.row x h
  ·exact hR.row x h
/-- What holds at the head of the loop. -/
structure DrI (w wr : World) (base Q X gb : Nat) (ag : Option Addr) (cg : Nat) (G : List Y) (F : List Lk) (L : List (Nat × Lk)) (Xa : Nat) (ka : Lk) (R : List (Nat × Lk)) : Prop where
 ch : Ch wr base (L ++ (Xa, ka) :: R) (some ⟨X, 0, none⟩) none
 nd : ((L ++ (Xa, ka) :: R).map Prod.fst).Nodup
 eq : L.map Prod.snd ++ dropK ka (R.map fun x => filL G x.2) = F
 bel : BK base w wr
 rd : RowsD wr ((L ++ (Xa, ka) :: R).map Prod.fst)
 bs : base ≤ wr.heap.size
 q : wr.heap[Q]? = some (.cells #[.slice ag G.length cg, .func (.func 132) #[] #[]] 127 (0, 0))
 og : Own eY 49 wr gb (.slice ag G.length cg) G
 len : ∀ x, x ∈ R → x.2.b.length ≤ 1048576
theorem two_cells {w : World} {Q : Nat} {a b : Value} {T : TypeId} (h : w.heap[Q]? = some (.cells #[a, b] T (0, 0))) : w.cell? ⟨Q, 0, none⟩ = some a ∧ w.cell? ⟨Q, 1, none⟩ = some b := ⟨heap_cell h 0, heap_cell h 1⟩
theorem DrI.below {w wr v : World} {base Q X gb : Nat} {ag : Option Addr} {cg : Nat} {G : List Y} {F : List Lk} {L : List (Nat × Lk)} {Xa : Nat} {ka : Lk} {R : List (Nat × Lk)} (h : DrI w wr base Q X gb ag cg G F L Xa ka R) (hb : Below wr.heap.size wr v) : DrI w v base Q X gb ag cg G F L Xa ka R :=
 ⟨h.ch.below hb, h.nd, h.eq, h.bel.step hb h.bs, h.ch.rows_below h.rd hb, Nat.le_trans h.bs hb.size, (hb.block Q (heap_lt h.q)).trans h.q, h.og.below hb, h.len⟩
end Go.Proofs.YtihpajiololfoaaGreat
