/-
  FOR THE LAWS OVER SEGS: what came in, opened.
  WHAT CAME IN, opened: rows of ints.
-/
import Derived.Test.YtihpajiololfoaaGreatCb34
import Derived.Test.YtihpajiololfoaaGreatCb15
import Derived.ProofKit
import Derived.OpenShut
import Derived.ChangeOld
import Derived.ChangeSlices
import Derived.Lib.SmallJoins
import Derived.Deep.Slices
import Derived.Deep.SlicePairs
import Derived.Test.YtihpajiololfoaaGreatCb04
namespace Go.Proofs.YtihpajiololfoaaGreat
open Go.ChangeShapes Go.WideShapes Go.ChangeAt Go.RowKit Go.Joins Go.Deep

theorem Tryz.own : ownKnob Tryz.prog.godebug = none := by kernel_rfl
theorem Tryz.laidOut : laidOutB Tryz.prog = true := by kernel_rfl
theorem Tryz.cells122 : Tryz.prog.cellsOf 122 = 3 := by kernel_rfl
theorem Tryz.cells58 : Tryz.prog.cellsOf 58 = 2 := by kernel_rfl
theorem Tryz.cells3 : Tryz.prog.cellsOf 3 = 1 := by kernel_rfl
theorem Tryz.cells4 : Tryz.prog.cellsOf 4 = 1 := by kernel_rfl
theorem Tryz.cells46 : Tryz.prog.cellsOf 46 = 2 := by kernel_rfl
theorem Tryz.cells110 : Tryz.prog.cellsOf 110 = 1 := by kernel_rfl
theorem Tryz.cells22 : Tryz.prog.cellsOf 22 = 1 := by kernel_rfl
theorem Tryz.cells23 : Tryz.prog.cellsOf 23 = 1 := by kernel_rfl
theorem Tryz.cells24 : Tryz.prog.cellsOf 24 = 1 := by kernel_rfl
theorem Tryz.cells26 : Tryz.prog.cellsOf 26 = 3 := by kernel_rfl

variable {H : Type} {enc : TypeId × Value → H} {W : World}

set_option maxRecDepth 100000 in
theorem open_val3 {n : Nat} {cs : List Value} {x : DataW H × List MemPlace} (h : DataW.trod enc Tryz.prog W 0 (fun _ => true) true n 122 cs = some x) : ∃ y : VV, cs = eV.enc y := by
 obtain ⟨y0, y1, m, _, hlen, h0, h1⟩ := trod_struct2 Tryz.underlying122 h
 rw [Tryz.cells122] at hlen
 match cs, hlen with
 | [c0, c1, c2], _ =>
  simp [Tryz.cells58, Tryz.cells4] at h0 h1
  obtain ⟨z0, z1, m', _, _, g0, g1⟩ := trod_struct2 Tryz.underlying58 h0
  simp [Tryz.cells3] at g0 g1
  obtain ⟨a, e0, _, _⟩ := DataW.trod_int Tryz.underlying3 g0
  obtain ⟨b, e1, _, _⟩ := DataW.trod_int Tryz.underlying3 g1
  obtain ⟨s, e2, _⟩ := DataW.trod_bool Tryz.underlying4 h1
  simp at e0 e1 e2
  subst e0 e1 e2
  exact ⟨(a, b, s), rfl⟩
set_option maxRecDepth 100000 in
theorem open_sym2 {n : Nat} {cs : List Value} {x : DataW H × List MemPlace} (h : DataW.trod enc Tryz.prog W 0 (fun _ => true) true n 46 cs = some x) : ∃ y : Y, cs = eY.enc y := by
 obtain ⟨y0, y1, m, _, hlen, h0, h1⟩ := trod_struct2 Tryz.underlying46 h
 rw [Tryz.cells46] at hlen
 match cs, hlen with
 | [c0, c1], _ =>
  simp [Tryz.cells3] at h0 h1
  obtain ⟨a, e0, _, _⟩ := DataW.trod_int Tryz.underlying3 h0
  obtain ⟨b, e1, _, _⟩ := DataW.trod_int Tryz.underlying3 h1
  simp at e0 e1
  subst e0 e1
  exact ⟨(a, b), rfl⟩
theorem open_bool1 {n : Nat} {cs : List Value} {x : DataW H × List MemPlace} (h : DataW.trod enc Tryz.prog W 0 (fun _ => true) true n 4 cs = some x) (hl : cs.length = 1) : ∃ y : Bool, cs = eB.enc y := by
 obtain ⟨s, e, _⟩ := DataW.trod_bool Tryz.underlying4 h
 match cs, hl with
 | [c], _ => simp at e; subst e; exact ⟨s, rfl⟩
theorem list_of_fn {α : Type} (f : Nat → α) (n : Nat) : ∃ l : List α, l.length = n ∧ ∀ i x, l[i]? = some x → i < n ∧ x = f i := by
 refine ⟨(List.range n).map f, by simp, fun i x hx => ?_⟩
 obtain ⟨hi, e⟩ := List.getElem?_eq_some_iff.1 hx
 simp at hi e
 exact ⟨hi, e.symm⟩
/-- A slice that came in, out of what its elements are. -/
theorem open_row {α : Type} (E : El α) [Inhabited α] {T U : TypeId} (hT : Tryz.prog.underlying T = some (.slice U)) (hU : Tryz.prog.cellsOf U = E.k)
  (he : ∀ {n : Nat} {cs : List Value} {x : DataW H × List MemPlace}, DataW.trod enc Tryz.prog W 0 (fun _ => true) true n U cs = some x → cs.length = E.k → ∃ y : α, cs = E.enc y)
  {n : Nat} {a : Option Addr} {len cap : Nat} {x : DataW H × List MemPlace} (h : DataW.trod enc Tryz.prog W 0 (fun _ => true) true n T [.slice a len cap] = some x) :
  ∃ l : List α, len = l.length ∧ l.length ≤ maxLen ∧ At E W a l := by
 rcases open_slice hT h with ⟨hcs, _⟩ | ⟨ad, len', cap', m, n, D, Pl, hcs, _, hl, hm, hmm, _, hall⟩
 ·simp at hcs
  exact ⟨[], hcs.2.1, by simp, .inl rfl⟩
 ·simp at hcs
  obtain ⟨rfl, rfl, rfl⟩ := hcs
  by_cases h0 : len = 0
  ·exact ⟨[], h0, by simp, .inl rfl⟩
  simp only [if_true] at hmm
  rw [hU] at hall
  have each : ∀ i, i < len → ∃ y : α, ∀ (j : Nat) (v : Value), (E.enc y)[j]? = some v → W.cell? (ad.add (i * E.k + j)) = some v := by
   intro i hi
   obtain ⟨cs', h1, h2⟩ := hall i (by omega)
   obtain ⟨hq1, hq2, hc⟩ := World.cells?_some h1
   have hcl : cs'.length = E.k := by first | exact hq1 | exact hq2
   obtain ⟨y, rfl⟩ := he h2 hcl
   refine ⟨y, fun j v hv => ?_⟩
   have hj : j < E.k := by have := (List.getElem?_eq_some_iff.1 hv).1; rwa [E.len] at this
   have e0 := hc j (by first | exact hj | omega)
   rw [add_add] at e0
   rw [e0]
   first | exact hv | simpa using hv
  obtain ⟨f, hf'⟩ := choose_lt each
  obtain ⟨l, hwl, hws⟩ := list_of_fn f len
  obtain ⟨b, off, spot⟩ := ad
  have hsp : spot = none := by
   have hp := E.pos
   have hq := E.len (f 0)
   obtain ⟨v0, hj⟩ : ∃ v, (E.enc (f 0))[0]? = some v := ⟨_, List.getElem?_eq_getElem (by omega)⟩
   have := World.cell?_spot (hf' 0 (by omega) 0 v0 hj)
   simpa [Addr.add] using this
  subst hsp
  refine ⟨l, hwl.symm, by omega, .inr ⟨b, off, rfl, fun i x hx j v hv => ?_⟩⟩
  obtain ⟨hi, rfl⟩ := hws i x hx
  have e0 := hf' i hi j v hv
  rw [add_plain] at e0
  rw [Nat.add_assoc]
  exact e0
instance : Inhabited (List Y × Option Addr × Nat) := ⟨([], none, 0)⟩
theorem open_bnds {n : Nat} {a : Option Addr} {len cap : Nat} {x : DataW H × List MemPlace} (h : DataW.trod enc Tryz.prog W 0 (fun _ => true) true n 22 [.slice a len cap] = some x) :
  ∃ ls : List (List Y), len = ls.length ∧ ls.length ≤ maxLen ∧ (∀ (i : Nat) (l : List Y), ls[i]? = some l → l.length ≤ maxLen) ∧ BndsAt W a ls := by
 rcases open_slice Tryz.underlying22 h with ⟨hcs, _⟩ | ⟨ad, len', cap', m, n, D, Pl, hcs, _, hl, hm, hmm, _, hall⟩
 ·simp at hcs
  exact ⟨[], hcs.2.1, by simp, fun i l h => by simp at h, .inl rfl⟩
 ·simp at hcs
  obtain ⟨rfl, rfl, rfl⟩ := hcs
  by_cases h0 : len = 0
  ·exact ⟨[], h0, by simp, fun i l h => by simp at h, .inl rfl⟩
  simp only [if_true] at hmm
  rw [Tryz.cells110] at hall
  have each : ∀ i, i < len → ∃ y : List Y × Option Addr × Nat, W.cell? (ad.add i) = some (.slice y.2.1 y.1.length y.2.2) ∧ y.1.length ≤ maxLen ∧ At eY W y.2.1 y.1 := by
   intro i hi
   obtain ⟨cs', h1, h2⟩ := hall i (by omega)
   obtain ⟨_, hcl, hc⟩ := World.cells?_some h1
   obtain ⟨u, a1, l1, c1, rfl, rfl⟩ : ∃ (u : Value) (a1 : Option Addr) (l1 c1 : Nat), cs' = [u] ∧ u = .slice a1 l1 c1 := by
    rcases open_slice Tryz.underlying110 h2 with ⟨hcs, _⟩ | ⟨ad, len', cap', _, _, _, _, hcs, _⟩
    ·exact ⟨_, none, 0, 0, hcs, rfl⟩
    ·exact ⟨_, some ad, len', cap', hcs, rfl⟩
   obtain ⟨l, rfl, hml, hat⟩ := open_row eY Tryz.underlying110 Tryz.cells46 (fun h _ => open_sym2 h) h2
   refine ⟨(l, a1, c1), ?_, hml, hat⟩
   have e0 := hc 0 (by omega)
   rw [add_add] at e0
   simpa using e0
  obtain ⟨f, hf'⟩ := choose_lt each
  obtain ⟨ys, hwl, hws⟩ := list_of_fn f len
  obtain ⟨b, off, spot⟩ := ad
  have hsp : spot = none := by
   have := World.cell?_spot (hf' 0 (by omega)).1
   simpa [Addr.add] using this
  subst hsp
  refine ⟨ys.map (·.1), by simp [hwl], by simp; omega, fun i l hl => ?_, .inr ⟨b, off, rfl, fun i l hl => ?_⟩⟩
  ·rw [List.getElem?_map] at hl
   obtain ⟨y, hy, rfl⟩ := Option.map_eq_some_iff.1 hl
   obtain ⟨hi, rfl⟩ := hws i y hy
   exact (hf' i hi).2.1
  ·rw [List.getElem?_map] at hl
   obtain ⟨y, hy, rfl⟩ := Option.map_eq_some_iff.1 hl
   obtain ⟨hi, rfl⟩ := hws i y hy
   obtain ⟨e0, _, e1⟩ := hf' i hi
   rw [add_plain] at e0
   exact ⟨_, _, e0, e1⟩
structure Lim (S : SG) : Prop where
 b : S.B.length ≤ maxLen
 r : ∀ (i : Nat) (l : List Y), S.B[i]? = some l → l.length ≤ maxLen
 v : S.V.length ≤ maxLen
 m : S.M.length ≤ maxLen
theorem slice_cs {t e : TypeId} {fuel : Nat} {cs : List Value} {x : DataW H × List MemPlace} (ht : Tryz.prog.underlying t = some (.slice e)) (h : DataW.trod enc Tryz.prog W 0 (fun _ => true) true fuel t cs = some x) : ∃ (a : Option Addr) (l c : Nat), cs = [.slice a l c] := by
 rcases open_slice ht h with ⟨hcs, _⟩ | ⟨ad, len', cap', _, _, _, _, hcs, _⟩
 ·exact ⟨none, 0, 0, hcs⟩
 ·exact ⟨some ad, len', cap', hcs⟩
set_option maxRecDepth 100000 in
theorem open_seg {b0 : Nat} {v : Value} {d : DataW H} {p : List MemPlace} (hv : Value.okWide Tryz.prog W .any b0 26 v) (h : DataW.Trod enc Tryz.prog W 0 (fun _ => true) true 26 v d p) :
  ∃ (S : SG) (A : SAd), v = .agg #[.slice A.a0 S.B.length A.c0, .slice A.a1 S.V.length A.c1, .slice A.a2 S.M.length A.c2] ∧ Lim S ∧ SegAt W A S := by
 obtain ⟨cs, rfl, hsz⟩ := okWide_struct Tryz.underlying26 hv
 obtain ⟨c0, c1, c2, rfl⟩ := array3 (hsz.trans Tryz.cells26)
 obtain ⟨fuel, hf⟩ := h
 obtain ⟨y0, y1, y2, m, _, hlen, h0, h1, h2⟩ := trod_struct3 Tryz.underlying26 hf
 simp [Value.cells, Tryz.cells22, Tryz.cells23, Tryz.cells24] at h0 h1 h2
 obtain ⟨a0, l0, r0, e0⟩ := slice_cs Tryz.underlying22 h0
 obtain ⟨a1, l1, r1, e1⟩ := slice_cs Tryz.underlying23 h1
 obtain ⟨a2, l2, r2, e2⟩ := slice_cs Tryz.underlying24 h2
 simp at e0 e1 e2
 subst e0 e1 e2
 obtain ⟨B, rfl, hb, hr, hB⟩ := open_bnds h0
 obtain ⟨V, rfl, hv', hV⟩ := open_row eV Tryz.underlying23 Tryz.cells122 (fun h _ => open_val3 h) h1
 obtain ⟨M, rfl, hm, hM⟩ := open_row eB Tryz.underlying24 Tryz.cells4 (fun h hl => open_bool1 h hl) h2
 exact ⟨⟨B, V, M⟩, ⟨a0, r0, a1, r1, a2, r2⟩, rfl, ⟨hb, hr, hv', hm⟩, ⟨hB, hV, hM⟩⟩
end Go.Proofs.YtihpajiololfoaaGreat
namespace Go.Proofs.YtihpajiololfoaaGreat.Q
open Go.ChangeShapes Go.WideShapes Go.ChangeAt Go.RowKit Go.Joins

theorem Tryz.own : ownKnob Tryz.prog.godebug = none := by kernel_rfl
theorem Tryz.laidOut : laidOutB Tryz.prog = true := by kernel_rfl
theorem Tryz.cells58 : Tryz.prog.cellsOf 58 = 2 := by kernel_rfl
theorem Tryz.cells46 : Tryz.prog.cellsOf 46 = 2 := by kernel_rfl
theorem open_intsv {H : Type} {enc : TypeId × Value → H} {W : World} {n : Nat} {v : Value} {x : DataW H × List MemPlace} (h : DataW.trod enc Tryz.prog W 0 (fun _ => true) true n 27 [v] = some x) :
    ∃ (a : Option Addr) (c : Nat) (l : List Int), v = .slice a l.length c ∧ l.length ≤ maxLen ∧ IntsAt W a l := by
  rcases open_ints Tryz.underlying27 Tryz.underlying3 (by kernel_rfl) h with ⟨hcs, _⟩ | ⟨ad, len, cap, zs, hcs, _, hl, hm, hz, _, hcell, _⟩
  · simp at hcs
    subst hcs
    exact ⟨none, 0, [], rfl, by unfold maxLen; simp, .inl rfl⟩
  · simp at hcs
    subst hcs
    have hzl : zs.length = cap := by simpa using hz
    refine ⟨some ad, cap, zs.take len, by simp; omega, by simp; omega, ?_⟩
    by_cases h0 : len = 0
    · exact .inl (by rw [h0]; simp)
    · obtain ⟨b, off, rfl, hc⟩ := ints_at hcell (by omega)
      refine .inr ⟨b, off, rfl, fun i y hy => ?_⟩
      have hi : i < len := by have := (List.getElem?_eq_some_iff.1 hy).1; simp at this; omega
      rw [hc i (by omega)]
      rw [List.getElem?_take, if_pos hi] at hy
      rw [List.getD_eq_getElem?_getD, hy]; rfl
end Go.Proofs.YtihpajiololfoaaGreat.Q
