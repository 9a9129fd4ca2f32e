/-
  FOR THE CARDS: a Val that came in.
-/
import Derived.Test.YtiihjoliodemmaaDoorVt
import Derived.Test.YtiihjoliodemmaaDoorTie
import Derived.Test.YtiihjoliodemmaaDoorCards
import Derived.ProofKit
import Derived.LaidMore
import Derived.OpenShut
import Derived.ShutString
import Derived.ChangeOld
import Derived.Stop.Joined
import Derived.SevenTiedAt
import Derived.LaidSub
import Derived.Lib.SmallJoins
namespace Go.Proofs.YtiihjoliodemmaaDoor
open Go.ChangeShapes Go.WideShapes Go.ChangeAt Go.RowKit Go.Joins Go.Deep
open Go.ChangeMaps (open_string shut_string)

theorem Tryd.own : ownKnob Tryd.prog.godebug = none := by kernel_rfl
theorem Tryd.laidOut : laidOutB Tryd.prog = true := by kernel_rfl
theorem Tryd.cells30 : Tryd.prog.cellsOf 30 = 3 := by kernel_rfl
theorem Tryd.cells28 : Tryd.prog.cellsOf 28 = 2 := by kernel_rfl
theorem Tryd.cells3 : Tryd.prog.cellsOf 3 = 1 := by kernel_rfl
theorem Tryd.cells4 : Tryd.prog.cellsOf 4 = 1 := by kernel_rfl
set_option maxRecDepth 100000 in
theorem open_val {H : Type} {enc : TypeId × Value → H} {W : World} {b0 : Nat} {v : Value} {d : DataW H} {p : List MemPlace} (hv : Value.okWide Tryd.prog W .any b0 30 v) (h : DataW.Trod enc Tryd.prog W 0 (fun _ => true) true 30 v d p) : ∃ (a b : Int) (s : Bool), v = .agg #[.int .i64 a, .int .i64 b, .bool s] := by
  obtain ⟨cs, rfl, hsz⟩ := okWide_struct Tryd.underlying30 hv
  obtain ⟨c0, c1, c2, rfl⟩ := array3 (hsz.trans Tryd.cells30)
  obtain ⟨fuel, hf⟩ := h
  obtain ⟨y0, y1, n, hx, _, h0, h1⟩ := trod_struct2 Tryd.underlying30 hf
  have h0' : DataW.trod enc Tryd.prog W 0 (fun _ => true) true n 28 [c0, c1] = some y0 := by simpa [Value.cells, Tryd.cells28] using h0
  have h1' : DataW.trod enc Tryd.prog W 0 (fun _ => true) true n 4 [c2] = some y1 := by simpa [Value.cells, Tryd.cells4] using h1
  obtain ⟨z0, z1, n', _, _, g0, g1⟩ := trod_struct2 Tryd.underlying28 h0'
  have g0' : DataW.trod enc Tryd.prog W 0 (fun _ => true) true n' 3 [c0] = some z0 := by simpa [Tryd.cells3] using g0
  have g1' : DataW.trod enc Tryd.prog W 0 (fun _ => true) true n' 3 [c1] = some z1 := by simpa [Tryd.cells3] using g1
  obtain ⟨a, e0, _, _⟩ := DataW.trod_int Tryd.underlying3 g0'
  obtain ⟨b, e1, _, _⟩ := DataW.trod_int Tryd.underlying3 g1'
  obtain ⟨s, e2, _⟩ := DataW.trod_bool Tryd.underlying4 h1'
  simp at e0 e1 e2
  subst e0 e1 e2
  exact ⟨a, b, s, rfl⟩
end Go.Proofs.YtiihjoliodemmaaDoor
