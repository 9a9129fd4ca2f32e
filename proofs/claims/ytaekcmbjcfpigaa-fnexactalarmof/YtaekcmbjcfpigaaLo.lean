/-
  FOR THE LAW: what came in, opened.
-/
import Derived.Test.YtaekcmbjcfpigaaRc
import Derived.ProofKit
import Derived.OpenShut
import Derived.ChangeOld
import Derived.ChangeSlices
import Derived.Lib.SmallJoins
import Derived.Deep.Slices
import Derived.Deep.SlicePairs
import Derived.Deep.Strs
namespace Go.Proofs.Ytaekcmbjcfpigaa
open Go.ChangeShapes Go.WideShapes Go.ChangeAt Go.RowKit Go.Joins Go.Deep

theorem Try.own : ownKnob Try.prog.godebug = none := by kernel_rfl
theorem Try.laidOut : laidOutB Try.prog = true := by kernel_rfl
theorem Try.cells3 : Try.prog.cellsOf 3 = 1 := by kernel_rfl
theorem Try.cells4 : Try.prog.cellsOf 4 = 1 := by kernel_rfl
theorem Try.cells23 : Try.prog.cellsOf 23 = 1 := by kernel_rfl
theorem Try.cells24 : Try.prog.cellsOf 24 = 1 := by kernel_rfl
theorem Try.cells54 : Try.prog.cellsOf 54 = 1 := by kernel_rfl
theorem Try.cells62 : Try.prog.cellsOf 62 = 2 := by kernel_rfl
theorem Try.cells45 : Try.prog.cellsOf 45 = 3 := by kernel_rfl
theorem Try.cells26 : Try.prog.cellsOf 26 = 8 := by kernel_rfl
variable {H : Type} {enc : TypeId × Value → H} {W : World}
theorem list_of_fn {α : Type} (f : Nat → α) (n : Nat) : ∃ l : List α, l.length = n ∧ ∀ i x, l[i]? = some x → i < n ∧ x = f i := by
  refine ⟨(List.range n).map f, by simp, fun i x hx => ?_⟩
  obtain ⟨hi, e⟩ := List.getElem?_eq_some_iff.1 hx
  simp at hi e
  exact ⟨hi, e.symm⟩
/-- A slice that came in, out of what its elements are. -/
theorem open_row {α : Type} (E : El α) [Inhabited α] {T U : TypeId} (hT : Try.prog.underlying T = some (.slice U)) (hU : Try.prog.cellsOf U = E.k)
    (he : ∀ {n : Nat} {cs : List Value} {x : DataW H × List MemPlace}, DataW.trod enc Try.prog W 0 (fun _ => true) true n U cs = some x → cs.length = E.k → ∃ y : α, cs = E.enc y)
    {n : Nat} {a : Option Addr} {len cap : Nat} {x : DataW H × List MemPlace} (h : DataW.trod enc Try.prog W 0 (fun _ => true) true n T [.slice a len cap] = some x) :
    ∃ l : List α, len = l.length ∧ l.length ≤ maxLen ∧ At E W a l := by
  rcases open_slice hT h with ⟨hcs, _⟩ | ⟨ad, len', cap', m, n, D, Pl, hcs, _, hl, hm, hmm, _, hall⟩
  · simp at hcs
    exact ⟨[], hcs.2.1, by simp, .inl rfl⟩
  · simp at hcs
    obtain ⟨rfl, rfl, rfl⟩ := hcs
    by_cases h0 : len = 0
    · exact ⟨[], h0, by simp, .inl rfl⟩
    simp only [if_true] at hmm
    rw [hU] at hall
    have each : ∀ i, i < len → ∃ y : α, ∀ (j : Nat) (v : Value), (E.enc y)[j]? = some v → W.cell? (ad.add (i * E.k + j)) = some v := by
      intro i hi
      obtain ⟨cs', h1, h2⟩ := hall i (by omega)
      obtain ⟨hq1, hq2, hc⟩ := World.cells?_some h1
      have hcl : cs'.length = E.k := by first | exact hq1 | exact hq2
      obtain ⟨y, rfl⟩ := he h2 hcl
      refine ⟨y, fun j v hv => ?_⟩
      have hj : j < E.k := by have := (List.getElem?_eq_some_iff.1 hv).1; rwa [E.len] at this
      have e0 := hc j (by first | exact hj | omega)
      rw [add_add] at e0
      rw [e0]
      first | exact hv | simpa using hv
    obtain ⟨f, hf'⟩ := choose_lt each
    obtain ⟨l, hwl, hws⟩ := list_of_fn f len
    obtain ⟨b, off, spot⟩ := ad
    have hsp : spot = none := by
      have hp := E.pos
      have hq := E.len (f 0)
      obtain ⟨v0, hj⟩ : ∃ v, (E.enc (f 0))[0]? = some v := ⟨_, List.getElem?_eq_getElem (by omega)⟩
      have := World.cell?_spot (hf' 0 (by omega) 0 v0 hj)
      simpa [Addr.add] using this
    subst hsp
    refine ⟨l, hwl.symm, by omega, .inr ⟨b, off, rfl, fun i x hx j v hv => ?_⟩⟩
    obtain ⟨hi, rfl⟩ := hws i x hx
    have e0 := hf' i hi j v hv
    rw [add_plain] at e0
    rw [Nat.add_assoc]
    exact e0
theorem slice_cs {t e : TypeId} {fuel : Nat} {cs : List Value} {x : DataW H × List MemPlace} (ht : Try.prog.underlying t = some (.slice e)) (h : DataW.trod enc Try.prog W 0 (fun _ => true) true fuel t cs = some x) : ∃ (a : Option Addr) (l c : Nat), cs = [.slice a l c] := by
  rcases open_slice ht h with ⟨hcs, _⟩ | ⟨ad, len', cap', _, _, _, _, hcs, _⟩
  · exact ⟨none, 0, 0, hcs⟩
  · exact ⟨some ad, len', cap', hcs⟩

theorem open_int1 {n : Nat} {cs : List Value} {x : DataW H × List MemPlace} (h : DataW.trod enc Try.prog W 0 (fun _ => true) true n 3 cs = some x) (hl : cs.length = 1) : ∃ y : Int, cs = eI.enc y := by
  obtain ⟨s, e, _⟩ := DataW.trod_int Try.underlying3 h
  match cs, hl with
  | [c], _ => simp at e; subst e; exact ⟨s, rfl⟩
set_option maxRecDepth 100000 in
theorem open_cell2 {n : Nat} {cs : List Value} {x : DataW H × List MemPlace} (h : DataW.trod enc Try.prog W 0 (fun _ => true) true n 62 cs = some x) : ∃ y : CC, cs = eC.enc y := by
  obtain ⟨y0, y1, m, _, hlen, h0, h1⟩ := trod_struct2 Try.underlying62 h
  rw [Try.cells62] at hlen
  match cs, hlen with
  | [c0, c1], _ =>
    simp [Try.cells3, Try.cells4] at h0 h1
    obtain ⟨a, e0, _⟩ := DataW.trod_bool Try.underlying4 h0
    obtain ⟨b, e1, _, _⟩ := DataW.trod_int Try.underlying3 h1
    simp at e0 e1
    subst e0 e1
    exact ⟨(a, b), rfl⟩
set_option maxRecDepth 100000 in
theorem open_alarm3 {n : Nat} {cs : List Value} {x : DataW H × List MemPlace} (h : DataW.trod enc Try.prog W 0 (fun _ => true) true n 45 cs = some x) : ∃ y : AA, cs = eA.enc y := by
  obtain ⟨y0, y1, y2, m, _, hlen, h0, h1, h2⟩ := trod_struct3 Try.underlying45 h
  rw [Try.cells45] at hlen
  match cs, hlen with
  | [c0, c1, c2], _ =>
    simp [Try.cells3] at h0 h1 h2
    obtain ⟨a, e0, _, _⟩ := DataW.trod_int Try.underlying3 h0
    obtain ⟨b, e1, _, _⟩ := DataW.trod_int Try.underlying3 h1
    obtain ⟨c, e2, _, _⟩ := DataW.trod_int Try.underlying3 h2
    simp at e0 e1 e2
    subst e0 e1 e2
    exact ⟨(a, b, c), rfl⟩
instance : Inhabited CC := ⟨(false, 0)⟩
instance : Inhabited AA := ⟨(0, 0, 0)⟩
theorem open_alarmS {a : Option Addr} {len cap : Nat} {x : DataW H} {p : List MemPlace} (h : DataW.Trod enc Try.prog W 0 (fun _ => true) true 22 (.slice a len cap) x p) : ∃ l : List AA, len = l.length ∧ l.length ≤ maxLen ∧ At eA W a l := by
  obtain ⟨fuel, hf⟩ := h
  exact open_row eA Try.underlying22 Try.cells45 (fun h _ => open_alarm3 h) hf
instance : Inhabited (List CC × Option Addr × Nat) := ⟨([], none, 0)⟩
theorem open_cellSS {n : Nat} {a : Option Addr} {len cap : Nat} {x : DataW H × List MemPlace} (h : DataW.trod enc Try.prog W 0 (fun _ => true) true n 24 [.slice a len cap] = some x) :
    ∃ ls : List (List CC), len = ls.length ∧ ls.length ≤ maxLen ∧ (∀ (i : Nat) (l : List CC), ls[i]? = some l → l.length ≤ maxLen) ∧ RowsC W a ls := by
  rcases open_slice Try.underlying24 h with ⟨hcs, _⟩ | ⟨ad, len', cap', m, n, D, Pl, hcs, _, hl, hm, hmm, _, hall⟩
  · simp at hcs
    exact ⟨[], hcs.2.1, by simp, fun i l h => by simp at h, .inl rfl⟩
  · simp at hcs
    obtain ⟨rfl, rfl, rfl⟩ := hcs
    by_cases h0 : len = 0
    · exact ⟨[], h0, by simp, fun i l h => by simp at h, .inl rfl⟩
    simp only [if_true] at hmm
    rw [Try.cells54] at hall
    have each : ∀ i, i < len → ∃ y : List CC × Option Addr × Nat, W.cell? (ad.add i) = some (.slice y.2.1 y.1.length y.2.2) ∧ y.1.length ≤ maxLen ∧ At eC W y.2.1 y.1 := by
      intro i hi
      obtain ⟨cs', h1, h2⟩ := hall i (by omega)
      obtain ⟨_, hcl, hc⟩ := World.cells?_some h1
      obtain ⟨u, a1, l1, c1, rfl, rfl⟩ : ∃ (u : Value) (a1 : Option Addr) (l1 c1 : Nat), cs' = [u] ∧ u = .slice a1 l1 c1 := by
        rcases open_slice Try.underlying54 h2 with ⟨hcs, _⟩ | ⟨ad, len', cap', _, _, _, _, hcs, _⟩
        · exact ⟨_, none, 0, 0, hcs, rfl⟩
        · exact ⟨_, some ad, len', cap', hcs, rfl⟩
      obtain ⟨l, rfl, hml, hat⟩ := open_row eC Try.underlying54 Try.cells62 (fun h _ => open_cell2 h) h2
      refine ⟨(l, a1, c1), ?_, hml, hat⟩
      have e0 := hc 0 (by omega)
      rw [add_add] at e0
      simpa using e0
    obtain ⟨f, hf'⟩ := choose_lt each
    obtain ⟨ys, hwl, hws⟩ := list_of_fn f len
    obtain ⟨b, off, spot⟩ := ad
    have hsp : spot = none := by
      have := World.cell?_spot (hf' 0 (by omega)).1
      simpa [Addr.add] using this
    subst hsp
    refine ⟨ys.map (·.1), by simp [hwl], by simp; omega, fun i l hl => ?_, .inr ⟨b, off, rfl, fun i l hl => ?_⟩⟩
    · rw [List.getElem?_map] at hl
      obtain ⟨y, hy, rfl⟩ := Option.map_eq_some_iff.1 hl
      obtain ⟨hi, rfl⟩ := hws i y hy
      exact (hf' i hi).2.1
    · rw [List.getElem?_map] at hl
      obtain ⟨y, hy, rfl⟩ := Option.map_eq_some_iff.1 hl
      obtain ⟨hi, rfl⟩ := hws i y hy
      obtain ⟨e0, _, e1⟩ := hf' i hi
      rw [add_plain] at e0
      exact ⟨_, _, e0, e1⟩
set_option maxRecDepth 100000 in
set_option maxHeartbeats 1600000 in
theorem open_conf {b0 : Nat} {v : Value} {D : DataW H} {q : List MemPlace} (hv : Value.okWide Try.prog W .any b0 26 v) (h : DataW.Trod enc Try.prog W 0 (fun _ => true) true 26 v D q) :
    ∃ (p u s t e x : Int) (l : List Int) (a : Option Addr) (c : Nat) (ls : List (List CC)) (b : Option Addr) (d : Nat), v = .agg #[.int .i64 p, .slice a l.length c, .slice b ls.length d, .int .i64 u, .int .i64 s, .int .i64 t, .int .i64 e, .int .i64 x] ∧ l.length ≤ maxLen ∧ ls.length ≤ maxLen ∧ (∀ (i : Nat) (l : List CC), ls[i]? = some l → l.length ≤ maxLen) ∧ At eI W a l ∧ RowsC W b ls := by
  obtain ⟨cs, rfl, hsz⟩ := okWide_struct Try.underlying26 hv
  obtain ⟨fuel, hf⟩ := h
  obtain ⟨xs, m, _, _, hlen, hxl, hh⟩ := DataW.trod_struct Try.underlying26 hf
  rw [Try.cells26] at hlen
  have g0 := hh 0 _ rfl
  have g1 := hh 1 _ rfl
  have g2 := hh 2 _ rfl
  have g3 := hh 3 _ rfl
  have g4 := hh 4 _ rfl
  have g5 := hh 5 _ rfl
  have g6 := hh 6 _ rfl
  have g7 := hh 7 _ rfl
  clear hh hf hv
  obtain ⟨cl⟩ := cs
  simp only [Value.cells] at hlen g0 g1 g2 g3 g4 g5 g6 g7
  match cl, hlen with
  | [c0, c1, c2, c3, c4, c5, c6, c7], _ =>
    simp [Try.cells3, Try.cells23, Try.cells24] at g0 g1 g2 g3 g4 g5 g6 g7
    match xs, hxl with
    | [y0, y1, y2, y3, y4, y5, y6, y7], _ =>
      simp at g0 g1 g2 g3 g4 g5 g6 g7
      obtain ⟨p, e0, _, _⟩ := DataW.trod_int Try.underlying3 g0
      obtain ⟨u, e3, _, _⟩ := DataW.trod_int Try.underlying3 g3
      obtain ⟨s, e4, _, _⟩ := DataW.trod_int Try.underlying3 g4
      obtain ⟨t, e5, _, _⟩ := DataW.trod_int Try.underlying3 g5
      obtain ⟨e, e6, _, _⟩ := DataW.trod_int Try.underlying3 g6
      obtain ⟨x, e7, _, _⟩ := DataW.trod_int Try.underlying3 g7
      obtain ⟨a, la, c, e1⟩ := slice_cs Try.underlying23 g1
      obtain ⟨b, lb, d, e2⟩ := slice_cs Try.underlying24 g2
      simp at e0 e1 e2 e3 e4 e5 e6 e7
      subst e0 e1 e2 e3 e4 e5 e6 e7
      obtain ⟨l, rfl, hl, hL⟩ := open_row eI Try.underlying23 Try.cells3 (fun h hl => open_int1 h hl) g1
      obtain ⟨ls, rfl, hm, hr, hR⟩ := open_cellSS g2
      exact ⟨p, u, s, t, e, x, l, a, c, ls, b, d, rfl, hl, hm, hr, hL, hR⟩
end Go.Proofs.Ytaekcmbjcfpigaa
