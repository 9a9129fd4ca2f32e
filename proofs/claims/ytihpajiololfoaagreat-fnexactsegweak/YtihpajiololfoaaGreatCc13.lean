/-
  CONTRACT of the program's rowOf: a Seg as links of its own.
  CONTRACTS of slices.BinarySearchFunc over terms and of orderedSet.has.
  CONTRACT of orderedSet.has over terms.
  CONTRACT of orderedSet.without over terms.
  CONTRACTS of slices.Clone over terms and of orderedSet.isEmpty.
  CONTRACT of the specification's l10Without.
-/
import Derived.Test.YtihpajiololfoaaGreatCc08
import Derived.Test.YtihpajiololfoaaGreatCc12
import Derived.Test.YtihpajiololfoaaGreatCc10
import Derived.Test.YtihpajiololfoaaGreatCc06
import Derived.Test.YtihpajiololfoaaGreatCc04
namespace Go.Proofs.YtihpajiololfoaaGreat
open Go.RowKit

/-- A row of links of one's own, no two in one block. -/
def rowB (w : World) (X : Nat) : Option Nat := (w.cell? ⟨X, 0, none⟩).bind Value.ownBlock
/-- No two links have their terms in one block. -/
def RowsD (w : World) (L : List Nat) : Prop := L.Pairwise fun x y => ∀ b, rowB w x = some b → rowB w y ≠ some b
theorem rowB_of {w : World} {X : Nat} {v0 : Value} {v : VV} {m : Bool} {p : Option Addr} {T : TypeId} {fz : Nat × Nat} (h : w.heap[X]? = some (.cells (lkC v0 v m p) T fz)) : rowB w X = v0.ownBlock := by
 unfold rowB
 rw [heap_cell h 0]
 rfl
theorem rowB_block {w w' : World} {X : Nat} (h : w'.heap[X]? = w.heap[X]?) : rowB w' X = rowB w X := by
 unfold rowB
 rw [World.cell?_of_block (a := ⟨X, 0, none⟩) h]
theorem LinkO.row {w : World} {base X : Nat} {k : Lk} {p : Option Addr} (h : LinkO w base X k p) {b : Nat} (hb : rowB w X = some b) : base ≤ b ∧ b < w.heap.size := by
 obtain ⟨ao, cap, h1, h2⟩ := h.mem
 rw [rowB_of h1] at hb
 exact h2.lt hb
theorem Ch.row {w : World} {base : Nat} : ∀ {L : List (Nat × Lk)} {p q : Option Addr}, Ch w base L p q → ∀ x, x ∈ L.map Prod.fst → ∀ b, rowB w x = some b → b < w.heap.size
 | [], _, _, _, x, hx => by simp at hx
 | y :: _, _, _, ⟨e, p', h1, h2⟩, x, hx => by
  rcases List.mem_cons.1 hx with rfl | hx
  ·exact fun b hb => (h1.row hb).2
  ·exact Ch.row h2 x hx
theorem RowsD.same {w w' : World} {L : List Nat} (h : RowsD w L) (he : ∀ x, x ∈ L → rowB w' x = rowB w x) : RowsD w' L :=
 List.Pairwise.imp_of_mem (fun ha hb hr b h1 h2 => hr b (by rw [← he _ ha]; exact h1) (by rw [← he _ hb]; exact h2)) h
theorem Ch.rows_below {w w' : World} {base : Nat} {L : List (Nat × Lk)} {p q : Option Addr} (h : Ch w base L p q) (hr : RowsD w (L.map Prod.fst)) (hb : Below w.heap.size w w') : RowsD w' (L.map Prod.fst) :=
 hr.same fun x hx => by
  obtain ⟨y, hy, e⟩ := List.mem_map.1 hx
  rw [← e]
  exact rowB_block (hb.block _ (h.lt y hy))
def ChN (w : World) (base X : Nat) (ks : List Lk) : Prop := ∃ L : List (Nat × Lk), Ch w base L (some ⟨X, 0, none⟩) none ∧ L.map Prod.snd = ks ∧ (L.map Prod.fst).Nodup ∧ RowsD w (L.map Prod.fst)
theorem ChN.below {w w' : World} {base X : Nat} {ks : List Lk} (h : ChN w base X ks) (hb : Below w.heap.size w w') : ChN w' base X ks := by
 obtain ⟨L, h1, h2, h3, h4⟩ := h
 exact ⟨L, h1.below hb, h2, h3, h1.rows_below h4 hb⟩
theorem ChN.one {w : World} {base X : Nat} {k : Lk} (h : LinkO w base X k none) : ChN w base X [k] := ⟨[(X, k)], ⟨rfl, none, h, rfl⟩, rfl, by simp, by simp [RowsD]⟩
end Go.Proofs.YtihpajiololfoaaGreat
namespace Go.Proofs.YtihpajiololfoaaGreat
open Go.RowKit

end Go.Proofs.YtihpajiololfoaaGreat
namespace Go.Proofs.YtihpajiololfoaaGreat
open Go.RowKit

end Go.Proofs.YtihpajiololfoaaGreat
namespace Go.Proofs.YtihpajiololfoaaGreat
open Go.RowKit

theorem infoY : (Tryz.prog.info? 49).map (fun i => (i.zero, i.size, i.bytes)) = some (some (.agg #[.int .i64 0, .int .i64 0]), 2, 16) := by kernel_rfl
def outS (l m : List Y) : List Y := l.filter fun p => decide (p ∉ m)
theorem two_new (w : World) (a b : Value) (T : TypeId) (j : Nat) (u : Value) (h : [a, b][j]? = some u) : (w.alloc (.cells #[a, b] T)).cell? ((⟨w.heap.size, 0, none⟩ : Addr).add j) = some u := by
 rw [WideShapes.add_plain, Nat.zero_add, World.cell?_alloc_new]
 simpa using h
/-- The boxes of without: the others, the answer's, what is left. -/
structure WoAt (v : World) (X : Nat) (am : Option Addr) (k cm : Nat) (s : Value) : Prop where
 sz : X + 4 ≤ v.heap.size
 o0 : v.cell? ⟨X + 1, 0, none⟩ = some (.slice am k cm)
 o1 : v.cell? ⟨X + 1, 1, none⟩ = some (.func (.func 132) #[] #[])
 r0 : v.cell? ⟨X + 1 + 1, 0, none⟩ = some (.slice none 0 0)
 r1 : v.cell? ⟨X + 1 + 1, 1, none⟩ = some .nilFunc
 f0 : v.frozen? ⟨X + 1 + 1, 0, none⟩ = false
 f1 : v.frozen? ⟨X + 1 + 1, 1, none⟩ = false
 l0 : v.cell? ⟨X + 1 + 1 + 1, 0, none⟩ = some s
 l1 : v.cell? ⟨X + 1 + 1 + 1, 1, none⟩ = some (.func (.func 132) #[] #[])
 g0 : v.frozen? ⟨X + 1 + 1 + 1, 0, none⟩ = false
 g1 : v.frozen? ⟨X + 1 + 1 + 1, 1, none⟩ = false
theorem WoAt.keep {v v' : World} {X : Nat} {am : Option Addr} {k cm : Nat} {s : Value} (h : WoAt v X am k cm s) (hz : v.heap.size ≤ v'.heap.size) (hb : ∀ q, q < X + 4 → v'.heap[q]? = v.heap[q]?) : WoAt v' X am k cm s := by
 have e1 := hb (X + 1) (by omega)
 have e2 := hb (X + 1 + 1) (by omega)
 have e3 := hb (X + 1 + 1 + 1) (by omega)
 exact ⟨Nat.le_trans h.sz hz, (World.cell?_of_block (a := ⟨X + 1, 0, none⟩) e1).trans h.o0, (World.cell?_of_block (a := ⟨X + 1, 1, none⟩) e1).trans h.o1,
  (World.cell?_of_block (a := ⟨X + 1 + 1, 0, none⟩) e2).trans h.r0, (World.cell?_of_block (a := ⟨X + 1 + 1, 1, none⟩) e2).trans h.r1, (World.frozen?_of_block (a := ⟨X + 1 + 1, 0, none⟩) e2).trans h.f0, (World.frozen?_of_block (a := ⟨X + 1 + 1, 1, none⟩) e2).trans h.f1,
  (World.cell?_of_block (a := ⟨X + 1 + 1 + 1, 0, none⟩) e3).trans h.l0, (World.cell?_of_block (a := ⟨X + 1 + 1 + 1, 1, none⟩) e3).trans h.l1, (World.frozen?_of_block (a := ⟨X + 1 + 1 + 1, 0, none⟩) e3).trans h.g0, (World.frozen?_of_block (a := ⟨X + 1 + 1 + 1, 1, none⟩) e3).trans h.g1⟩
theorem WoAt.below {v v' : World} {X : Nat} {am : Option Addr} {k cm : Nat} {s : Value} (h : WoAt v X am k cm s) (hb : Below v.heap.size v v') : WoAt v' X am k cm s := h.keep hb.size fun q hq => hb.block q (by have := h.sz; omega)
theorem WoAt.put {v : World} {X : Nat} {am : Option Addr} {k cm : Nat} {s : Value} (h : WoAt v X am k cm s) (s' : Value) : WoAt (v.setCell ⟨X + 1 + 1 + 1, 0, none⟩ s') X am k cm s' := by
 obtain ⟨h0, h1, h2, h3, h4, h5, h6, h7, h8, h9, h10⟩ := h
 refine ⟨by simpa [go_sem] using h0, ?_, ?_, ?_, ?_, ?_, ?_, ?_, ?_, ?_, ?_⟩
 all_goals simp [go_sem, *]
end Go.Proofs.YtihpajiololfoaaGreat
namespace Go.Proofs.YtihpajiololfoaaGreat
open Go.RowKit

theorem fresh_y {w' : World} {g base : Nat} (hb : base ≤ g) (hg : w'.heap[g]? = some (.cells #[] 49 (0, 0))) : Own eY 49 w' base (.slice (some ⟨g, 0, none⟩) 0 0) [] :=
 ⟨rfl, .inr ⟨g, 0, #[], rfl, hb, hg, Nat.le_refl _, by unfold maxLen; omega, rfl, rfl⟩⟩
set_option maxRecDepth 100000 in
set_option maxHeartbeats 1600000 in
theorem clone_any (l : List Y) (ao : Option Addr) (cap : Nat) (w : World) (hn : l.length ≤ 1048576) (hl : At eY w ao l) :
  Calls Tryz.prog 91 #[.slice ao l.length cap] w fun e w' => Below w.heap.size w w' ∧ ∃ (g : Option Addr) (c : Nat), e = .returned (.slice g l.length c) ∧ Own eY 49 w' w.heap.size (.slice g l.length c) l := by
 obtain ⟨ti, hti, hz⟩ := Option.map_eq_some_iff.1 infoY
 simp only [Prod.mk.injEq] at hz
 obtain ⟨hz0, hz1, hz2⟩ := hz
 have HI := mkHid (show Tryz.prog.info? 49 = some ti ∧ ti.zero = some (.agg #[.int .i64 0, .int .i64 0]) ∧ ti.size = 2 ∧ ti.bytes = 16 from ⟨hti, hz0, hz1, hz2⟩)
 clear hti hz0 hz1 hz2
 have q34 : ∀ (w : World) (a : Option Addr) (n c n' c' : Nat), (binOp .eql 113 (.slice a n c) (.slice none n' c')).run Tryz.prog w = .ok (.bool a.isNone) w := fun w a n c n' c' => Lib.run_eql_slice_nil w 113 49 a n c n' c' Tryz.underlying113
 cases ao with
 | none =>
  obtain rfl : l = [] := by rcases hl with h | ⟨b, o, e, _⟩; exact h; cases e
  go_enter Tryz.func91, Tryz.ntmps91
  go_wp2
  go_ret
  exact ⟨Below.refl _ _, none, 0, rfl, Own.nil _ _ _ _⟩
 | some ad =>
  have HF : Hid (Own eY 49 (w.alloc (.cells #[] 49)) w.heap.size (.slice (some ⟨w.heap.size, 0, none⟩) 0 0) []) := mkHid (fresh_y (Nat.le_refl _) (by have := heap_alloc_new w (.cells #[] 49); simpa using this))
  have HL := mkHid hl
  clear hl
  rcases Nat.eq_zero_or_pos l.length with h0 | h0
  ·obtain rfl : l = [] := List.length_eq_zero_iff.1 h0
   go_enter Tryz.func91, Tryz.ntmps91
   go_wp2_with (at_builtin; refine wpList_append_zero _ rfl _ _ 113 rfl 49 ti Tryz.underlying113 HI.out.1 _ _ _ (Nat.le_refl 0) rfl _ _ rfl ?_)
   go_wp2
   go_ret
   exact ⟨bl_alloc (Below.refl _ _) _, _, 0, rfl, HF.out⟩
  ·obtain ⟨b, off, e, hlb, hq⟩ := HL.out.cons h0
   cases e
   go_enter Tryz.func91, Tryz.ntmps91
   go_wp2_with (at_builtin; refine wpList_append_lies _ rfl _ _ 113 rfl w.heap.size 49 ti (.agg #[.int .i64 0, .int .i64 0]) 2 16 Tryz.underlying113 HI.out.1 HI.out.2.1 HI.out.2.2.1 HI.out.2.2.2 rfl (by decide) _ 0 [] rfl HF.out ⟨b, off, none⟩ l.length cap (eY.flat l) rfl (eY.flat_len l) ?c1 ?c2 h0 ?c3 ?c4 ?c5 (w.heap.size + 1) (by simp) ?_)
   case c1 =>
    intro j u hu
    have hj : j < l.length * 2 := by have := (List.getElem?_eq_some_iff.1 hu).1; rw [El.flat_len] at this; exact this
    obtain ⟨x, hx⟩ : ∃ x, l[j / 2]? = some x := ⟨_, List.getElem?_eq_getElem (by omega)⟩
    have e : j / 2 * eY.k + j % 2 = j := by show j / 2 * 2 + j % 2 = j; omega
    have h1 := eY.flat_get hx (j := j % 2) (by show j % 2 < 2; omega)
    rw [e, hu] at h1
    have h2 := hq (j / 2) x hx (j % 2) u h1.symm
    rw [Nat.add_assoc, e] at h2
    rw [Addr.add_lit]
    exact ((bl_alloc (Below.refl w.heap.size w) _).cell (p := ⟨b, off + j, none⟩) hlb).trans h2
   case c2 =>
    intro u hu
    simp [El.flat, eY] at hu
    obtain ⟨p, q, _, h⟩ := hu
    rcases h with rfl | rfl <;> rfl
   case c3 => unfold maxLen; omega
   case c4 => omega
   case c5 => first | omega | (simp; done) | (simp; omega)
   intro g' c' w7 hown' hgrow hat' _
   have HB : Hid (Below w.heap.size w w7) := mkHid (((Below.refl w.heap.size w).alloc (Nat.le_refl _) _).grown hgrow (by simp) (fun q hq => by have := (HF.out.lt hq).1; omega))
   have HO : Hid (Own eY 49 w7 w.heap.size (.slice (some ⟨g', 0, none⟩) l.length c') l) := mkHid hown'
   clear hown' hgrow hat' hq
   go_wp2
   go_ret
   exact ⟨HB.out, _, c', rfl, HO.out⟩
end Go.Proofs.YtihpajiololfoaaGreat
namespace Go.Proofs.YtihpajiololfoaaGreat
open Go.RowKit

def keepD (lv : Int) (T : List Y) (p : Y) : Bool := decide (p = (0, 0)) || (decide (p = (lv, 0)) || decide (p ∉ T))
def outD (lv : Int) (T l : List Y) : List Y := l.filter (keepD lv T)
end Go.Proofs.YtihpajiololfoaaGreat
