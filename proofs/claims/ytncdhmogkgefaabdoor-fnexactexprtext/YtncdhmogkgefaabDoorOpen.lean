/-
  A TREE THAT CAME IN, OPENED; four cells of a struct.
-/
import Derived.Test.YtncdhmogkgefaabDoorCount
import Derived.ProofKit
import Derived.OpenShut
import Derived.ShutString
import Derived.ChangeOld
import Derived.Lib.SmallJoins
namespace Go.Proofs.YtncdhmogkgefaabDoor
open Go.ChangeShapes Go.WideShapes Go.ChangeAt Go.RowKit Go.Joins Go.Deep

theorem Tryd.own : ownKnob Tryd.prog.godebug = none := by kernel_rfl
theorem Tryd.laidOut : laidOutB Tryd.prog = true := by kernel_rfl
theorem Tryd.cells24 : Tryd.prog.cellsOf 24 = 4 := by kernel_rfl
theorem Tryd.cells3 : Tryd.prog.cellsOf 3 = 1 := by kernel_rfl
theorem Tryd.cells9 : Tryd.prog.cellsOf 9 = 1 := by kernel_rfl
theorem Tryd.cells22 : Tryd.prog.cellsOf 22 = 1 := by kernel_rfl
theorem list_of_fn (f : Nat → T) (n : Nat) : ∃ ws : List T, ws.length = n ∧ ∀ i x, ws[i]? = some x → i < n ∧ x = f i := by
  refine ⟨(List.range n).map f, by simp, fun i x hx => ?_⟩
  obtain ⟨hi, e⟩ := List.getElem?_eq_some_iff.1 hx
  simp at hi e
  exact ⟨hi, e.symm⟩
set_option maxRecDepth 100000 in
theorem open_kids {H : Type} {enc : TypeId × Value → H} {W : World} : ∀ (z : Nat) {n : Nat} {v : Value} {x : DataW H × List MemPlace}, SizeOf.sizeOf x.1 < z → DataW.trod enc Tryd.prog W 0 (fun _ => true) true n 22 [v] = some x →
    ∃ (a : Option Addr) (c : Nat) (kk : List T), v = .slice a kk.length c ∧ kk.length ≤ maxLen ∧ Kids W 0 a kk := by
  intro z
  induction z with
  | zero => intro n v x h; omega
  | succ z ih =>
    intro n v x hz h
    rcases open_slice Tryd.underlying22 h with ⟨hcs, _⟩ | ⟨ad, len, cap, m', n2, D, Pl, hcs, _, hl, hm, hmm, hy, hall⟩
    · simp at hcs
      subst hcs
      exact ⟨none, 0, [], rfl, by simp, .inl rfl⟩
    · simp at hcs
      subst hcs
      simp only [if_true] at hmm
      rw [Tryd.cells24] at hall
      have hD : ∀ i, i < len → SizeOf.sizeOf (D i) < z := fun i hi => by
        have h5 : D i ∈ (List.range len).map D := List.mem_map.2 ⟨i, List.mem_range.2 hi, rfl⟩
        have h6 := List.sizeOf_lt_of_mem h5
        rw [hy] at hz
        simp at hz
        omega
      by_cases h0 : len = 0
      · subst h0
        exact ⟨some ad, cap, [], rfl, by simp, .inl rfl⟩
      have one : ∀ i, i < len → ∃ (k : Int) (s : ByteArray) (mm : Int) (a : Option Addr) (c : Nat) (kk : List T), W.cells? 0 (ad.add (i * 4)) 4 = some [.int .i64 k, .string s, .int .i64 mm, .slice a kk.length c] ∧ s.size ≤ maxLen ∧ kk.length ≤ maxLen ∧ Kids W 0 a kk := by
        intro i hi
        obtain ⟨cs', q1, q2⟩ := hall i (by omega)
        obtain ⟨y0, y1, y2, y3, n', hx, hlen, h0, h1, h2, h3⟩ := trod_struct4 Tryd.underlying24 q2
        rw [Tryd.cells24] at hlen
        match cs', hlen with
        | [c0, c1, c2, c3], _ =>
          simp [Tryd.cells3, Tryd.cells9, Tryd.cells22] at h0 h1 h2 h3
          obtain ⟨x0, e0, _, _⟩ := DataW.trod_int Tryd.underlying3 h0
          obtain ⟨x1, e1, _, hs⟩ := DataW.trod_string Tryd.underlying9 h1
          obtain ⟨x2, e2, _, _⟩ := DataW.trod_int Tryd.underlying3 h2
          simp at e0 e1 e2
          subst e0 e1 e2
          have hsz := hD i hi
          have hx' : D i = _ := congrArg Prod.fst hx
          rw [hx'] at hsz
          simp at hsz
          obtain ⟨a, c, kk, rfl, hn, hk⟩ := ih (by omega) h3
          exact ⟨x0, x1, x2, a, c, kk, q1, hs, hn, hk⟩
      have hsp : ad.spot = none := by
        obtain ⟨_, _, _, _, _, _, q1, _⟩ := one 0 (by omega)
        obtain ⟨_, _, hc⟩ := World.cells?_some q1
        have := World.cell?_spot (hc 0 (by omega))
        simpa [Addr.add] using this
      obtain ⟨b, off, spot⟩ := ad
      simp only at hsp
      subst hsp
      have each : ∀ i, i < len → ∃ t : T, Lies W 0 t b (off + i * 4) := by
        intro i hi
        obtain ⟨k, s, mm, a, c, kk, q1, hs', hn', hk⟩ := one i hi
        obtain ⟨_, _, hc⟩ := World.cells?_some q1
        have g0 := hc 0 (by omega)
        have g1 := hc 1 (by omega)
        have g2 := hc 2 (by omega)
        have g3 := hc 3 (by omega)
        rw [add_plain, add_plain] at g0 g1 g2 g3
        refine ⟨.node k s mm kk, ?_⟩
        unfold Lies
        exact ⟨g0, g1, g2, hs', hn', a, c, g3, hk⟩
      have inh : Inhabited T := ⟨.node 0 ⟨#[]⟩ 0 []⟩
      obtain ⟨f, hf'⟩ := choose_lt each
      obtain ⟨ws, hwl, hws⟩ := list_of_fn f len
      refine ⟨some ⟨b, off, none⟩, cap, ws, by rw [hwl], by omega, .inr ⟨b, off, rfl, Nat.zero_le _, LiesL.of fun i t ht => ?_⟩⟩
      obtain ⟨hi, rfl⟩ := hws i t ht
      exact hf' i hi

def Four (w : World) (b : Nat) (k : Int) (s : ByteArray) (m : Int) (a : Option Addr) (n c : Nat) : Prop :=
  w.cell? ⟨b, 0, none⟩ = some (.int .i64 k) ∧ w.cell? ⟨b, 1, none⟩ = some (.string s) ∧ w.cell? ⟨b, 2, none⟩ = some (.int .i64 m) ∧ w.cell? ⟨b, 3, none⟩ = some (.slice a n c)
theorem Four.below {w w' : World} {b : Nat} {k : Int} {s : ByteArray} {m : Int} {a : Option Addr} {n c : Nat} (h : Four w b k s m a n c) (hb : Below w.heap.size w w') : Four w' b k s m a n c := by
  obtain ⟨h0, h1, h2, h3⟩ := h
  have hlt := World.block_lt_of_cell? w _ h0
  have hc : ∀ q, w'.cell? ⟨b, q, none⟩ = w.cell? ⟨b, q, none⟩ := fun q => hb.cell (p := ⟨b, q, none⟩) hlt
  exact ⟨(hc _).trans h0, (hc _).trans h1, (hc _).trans h2, (hc _).trans h3⟩
theorem Four.new (w : World) (k : Int) (s : ByteArray) (m : Int) (a : Option Addr) (n c t : Nat) : Four (w.alloc (.cells #[.int .i64 k, .string s, .int .i64 m, .slice a n c] t)) w.heap.size k s m a n c :=
  ⟨by simp [go_sem], by simp [go_sem], by simp [go_sem], by simp [go_sem]⟩

end Go.Proofs.YtncdhmogkgefaabDoor
