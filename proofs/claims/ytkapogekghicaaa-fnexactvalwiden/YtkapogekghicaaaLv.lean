/-
  FOR THE LAWS OVER VALS: a Val and a Cell that came in; a call whose answer (a Val) goes into a box made in whatever place.
-/
import Derived.Test.YtkapogekghicaaaVl
import Derived.Test.YtkapogekghicaaaIv
import Derived.Test.YtkapogekghicaaaTi
import Derived.ProofKit
import Derived.OpenShut
import Derived.ChangeOld
import Derived.ChangeSlices
import Derived.Lib.SmallJoins
namespace Go.Proofs.Ytkapogekghicaaa
open Go.ChangeShapes Go.WideShapes Go.ChangeAt Go.RowKit Go.Joins

theorem Try.own : ownKnob Try.prog.godebug = none := by kernel_rfl
theorem Try.laidOut : laidOutB Try.prog = true := by kernel_rfl
theorem Try.cells25 : Try.prog.cellsOf 25 = 3 := by kernel_rfl
theorem Try.cells23 : Try.prog.cellsOf 23 = 2 := by kernel_rfl
theorem Try.cells33 : Try.prog.cellsOf 33 = 2 := by kernel_rfl
theorem Try.cells3 : Try.prog.cellsOf 3 = 1 := by kernel_rfl
theorem Try.cells4 : Try.prog.cellsOf 4 = 1 := by kernel_rfl

theorem open_val {H : Type} {enc : TypeId × Value → H} {W : World} {b0 : Nat} {v : Value} {d : DataW H} {p : List MemPlace} (hv : Value.okWide Try.prog W .any b0 25 v) (h : DataW.Trod enc Try.prog W 0 (fun _ => true) true 25 v d p) : ∃ (a b : Int) (s : Bool), v = .agg #[.int .i64 a, .int .i64 b, .bool s] := by
  obtain ⟨cs, rfl, hsz⟩ := okWide_struct Try.underlying25 hv
  obtain ⟨c0, c1, c2, rfl⟩ := array3 (hsz.trans Try.cells25)
  obtain ⟨fuel, hf⟩ := h
  obtain ⟨y0, y1, n, hx, _, h0, h1⟩ := trod_struct2 Try.underlying25 hf
  have h0' : DataW.trod enc Try.prog W 0 (fun _ => true) true n 23 [c0, c1] = some y0 := by simpa [Value.cells, Try.cells23] using h0
  have h1' : DataW.trod enc Try.prog W 0 (fun _ => true) true n 4 [c2] = some y1 := by simpa [Value.cells, Try.cells4] using h1
  obtain ⟨z0, z1, n', _, _, g0, g1⟩ := trod_struct2 Try.underlying23 h0'
  have g0' : DataW.trod enc Try.prog W 0 (fun _ => true) true n' 3 [c0] = some z0 := by simpa [Try.cells3] using g0
  have g1' : DataW.trod enc Try.prog W 0 (fun _ => true) true n' 3 [c1] = some z1 := by simpa [Try.cells3] using g1
  obtain ⟨a, e0, _, _⟩ := DataW.trod_int Try.underlying3 g0'
  obtain ⟨b, e1, _, _⟩ := DataW.trod_int Try.underlying3 g1'
  obtain ⟨s, e2, _⟩ := DataW.trod_bool Try.underlying4 h1'
  simp at e0 e1 e2
  subst e0 e1 e2
  exact ⟨a, b, s, rfl⟩
theorem open_cell {H : Type} {enc : TypeId × Value → H} {W : World} {b0 : Nat} {v : Value} {d : DataW H} {p : List MemPlace} (hv : Value.okWide Try.prog W .any b0 33 v) (h : DataW.Trod enc Try.prog W 0 (fun _ => true) true 33 v d p) : ∃ (s : Bool) (n : Int), v = .agg #[.bool s, .int .i64 n] := by
  obtain ⟨u0, u1, y0, y1, m, hv, _, _, hy0, hy1⟩ := open_agg2 Try.underlying33 (by kernel_rfl) Try.cells33 hv h
  obtain ⟨s, e0, _⟩ := DataW.trod_bool Try.underlying4 hy0
  obtain ⟨n, e1, _, _⟩ := DataW.trod_int Try.underlying3 hy1
  simp at e0 e1
  subst e0 e1 hv
  exact ⟨s, n, rfl⟩
/-- A slice of ints that came in. -/
theorem open_intsof {H : Type} {enc : TypeId × Value → H} {W : World} {a : Option Addr} {len cap : Nat} {x : DataW H} {p : List MemPlace} (h : DataW.Trod enc Try.prog W 0 (fun _ => true) true 41 (.slice a len cap) x p) : ∃ l : List Int, len = l.length ∧ l.length ≤ maxLen ∧ IntsOf W l a := by
  obtain ⟨fuel, hf⟩ := h
  rcases open_ints Try.underlying41 Try.underlying3 (by kernel_rfl) hf with ⟨hcs, _⟩ | ⟨ad, ln, c, zs, hcs, _, hl, hm, hz, _, hcell, _⟩
  · simp [Value.cells] at hcs
    exact ⟨[], by simpa using hcs.2.1, by unfold maxLen; simp, .inl rfl⟩
  · simp [Value.cells] at hcs
    obtain ⟨rfl, rfl, rfl⟩ := hcs
    have hzl : zs.length = cap := by simpa using hz
    refine ⟨zs.take len, by simp; omega, by simp; omega, ?_⟩
    by_cases h0 : len = 0
    · exact .inl (by rw [h0]; simp)
    · obtain ⟨b, off, rfl, hc⟩ := ints_at hcell (by omega)
      refine .inr ⟨b, off, rfl, fun i y hy => ?_⟩
      have hi : i < len := by have := (List.getElem?_eq_some_iff.1 hy).1; simp at this; omega
      rw [hc i (by omega)]
      rw [List.getElem?_take, if_pos hi] at hy
      rw [List.getD_eq_getElem?_getD, hy]; rfl
/-- A call whose answer goes into a box that is made in whatever place. -/
structure CalV (w0 : World) (al st : Bool) (X : Nat) (a b : Int) (s : Bool) (v : World) : Prop where
  bel : Below w0.heap.size w0 v
  sa : st = true → al = true
  box : al = true → w0.heap.size ≤ X ∧ (st = false → V3 v X 0 0 false) ∧ (st = true → V3 v X a b s)
theorem CalV.start {w0 v : World} {X : Nat} {a b : Int} {s : Bool} (h : Below w0.heap.size w0 v) : CalV w0 false false X a b s v := ⟨h, fun e => ft e, fun e => ft e⟩
theorem CalV.below {w0 v v' : World} {al st : Bool} {X : Nat} {a b : Int} {s : Bool} (h : CalV w0 al st X a b s v) (hb : Below v.heap.size v v') : CalV w0 al st X a b s v' :=
  ⟨below_step h.bel hb, h.sa, fun e => ⟨(h.box e).1, fun e2 => ((h.box e).2.1 e2).below hb, fun e2 => ((h.box e).2.2 e2).below hb⟩⟩
theorem CalV.alloc {w0 v : World} {st : Bool} {X : Nat} {a b : Int} {s : Bool} (h : CalV w0 false st X a b s v) : CalV w0 true st v.heap.size a b s (v.alloc (.cells #[.int .i64 0, .int .i64 0, .bool false] 29)) := by
  have e : st = false := by cases hs : st; rfl; exact absurd (h.sa hs) (by decide)
  subst e
  exact ⟨bl_alloc h.bel _, fun _ => rfl, fun _ => ⟨h.bel.size, fun _ => V3.new v 0 0 false 29, fun e => ft e⟩⟩
theorem CalV.store {w0 v : World} {X : Nat} {a b : Int} {s : Bool} (h : CalV w0 true false X a b s v) : CalV w0 true true X a b s (((v.setCell ⟨X, 0, none⟩ (.int .i64 a)).setCell ⟨X, 1, none⟩ (.int .i64 b)).setCell ⟨X, 2, none⟩ (.bool s)) := by
  obtain ⟨h1, h2, _⟩ := h.box rfl
  exact ⟨bl_set (bl_set (bl_set h.bel h1 _) h1 _) h1 _, fun _ => rfl, fun _ => ⟨h1, fun e => tf e, fun _ => (h2 rfl).set a b s⟩⟩
theorem CalV.all {w0 v : World} {X : Nat} {a b : Int} {s : Bool} (h : CalV w0 true true X a b s v) : Below w0.heap.size w0 v ∧ V3 v X a b s := ⟨h.bel, (h.box rfl).2.2 rfl⟩
end Go.Proofs.Ytkapogekghicaaa
