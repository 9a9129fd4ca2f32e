/-
  A GRAPH THAT CAME IN, opened.
-/
import Derived.Test.YtpikgigfeifliaaDoorGr
import Derived.ProofKit
import Derived.OpenShut
import Derived.ShutString
import Derived.ChangeOld
import Derived.Lib.SmallJoins
namespace Go.Proofs.YtpikgigfeifliaaDoor
open Go.ChangeShapes Go.WideShapes Go.ChangeAt Go.RowKit Go.Joins Go.Deep

theorem Tryd.own : ownKnob Tryd.prog.godebug = none := by kernel_rfl
theorem Tryd.laidOut : laidOutB Tryd.prog = true := by kernel_rfl
theorem Tryd.cells59 : Tryd.prog.cellsOf 59 = 4 := by kernel_rfl
theorem Tryd.cells61 : Tryd.prog.cellsOf 61 = 8 := by kernel_rfl
theorem Tryd.cells22 : Tryd.prog.cellsOf 22 = 1 := by kernel_rfl
theorem Tryd.cells24 : Tryd.prog.cellsOf 24 = 2 := by kernel_rfl
theorem Tryd.cells4 : Tryd.prog.cellsOf 4 = 1 := by kernel_rfl
theorem Tryd.cells3 : Tryd.prog.cellsOf 3 = 1 := by kernel_rfl
theorem Tryd.cells9 : Tryd.prog.cellsOf 9 = 1 := by kernel_rfl
theorem Tryd.cells57 : Tryd.prog.cellsOf 57 = 1 := by kernel_rfl
theorem list_of_fn (f : Nat → T) (n : Nat) : ∃ ws : List T, ws.length = n ∧ ∀ i x, ws[i]? = some x → i < n ∧ x = f i := by
  refine ⟨(List.range n).map f, by simp, fun i x hx => ?_⟩
  obtain ⟨hi, e⟩ := List.getElem?_eq_some_iff.1 hx
  simp at hi e
  exact ⟨hi, e.symm⟩
theorem open_kids {H : Type} {enc : TypeId × Value → H} {W : World} : ∀ (z : Nat) {n : Nat} {v : Value} {x : DataW H × List MemPlace}, SizeOf.sizeOf x.1 < z → DataW.trod enc Tryd.prog W 0 (fun _ => true) true n 57 [v] = some x →
    ∃ (a : Option Addr) (c : Nat) (kk : List T), v = .slice a kk.length c ∧ kk.length ≤ maxLen ∧ Kids W 0 a kk := by
  intro z
  induction z with
  | zero => intro n v x h; omega
  | succ z ih =>
    intro n v x hz h
    rcases open_slice Tryd.underlying57 h with ⟨hcs, _⟩ | ⟨ad, len, cap, m', n2, D, Pl, hcs, _, hl, hm, hmm, hy, hall⟩
    · simp at hcs
      subst hcs
      exact ⟨none, 0, [], rfl, by simp, .inl rfl⟩
    · simp at hcs
      subst hcs
      simp only [if_true] at hmm
      rw [Tryd.cells59] at hall
      have hD : ∀ i, i < len → SizeOf.sizeOf (D i) < z := fun i hi => by
        have h5 : D i ∈ (List.range len).map D := List.mem_map.2 ⟨i, List.mem_range.2 hi, rfl⟩
        have h6 := List.sizeOf_lt_of_mem h5
        rw [hy] at hz
        simp at hz
        omega
      by_cases h0 : len = 0
      · subst h0
        exact ⟨some ad, cap, [], rfl, by simp, .inl rfl⟩
      have one : ∀ i, i < len → ∃ (k : Int) (s : ByteArray) (mm : Int) (a : Option Addr) (c : Nat) (kk : List T), W.cells? 0 (ad.add (i * 4)) 4 = some [.int .i64 k, .string s, .int .i64 mm, .slice a kk.length c] ∧ s.size ≤ maxLen ∧ kk.length ≤ maxLen ∧ Kids W 0 a kk := by
        intro i hi
        obtain ⟨cs', q1, q2⟩ := hall i (by omega)
        obtain ⟨y0, y1, y2, y3, n', hx, hlen, h0, h1, h2, h3⟩ := trod_struct4 Tryd.underlying59 q2
        rw [Tryd.cells59] at hlen
        match cs', hlen with
        | [c0, c1, c2, c3], _ =>
          simp [Tryd.cells3, Tryd.cells9, Tryd.cells57] at h0 h1 h2 h3
          obtain ⟨x0, e0, _, _⟩ := DataW.trod_int Tryd.underlying3 h0
          obtain ⟨x1, e1, _, hs⟩ := DataW.trod_string Tryd.underlying9 h1
          obtain ⟨x2, e2, _, _⟩ := DataW.trod_int Tryd.underlying3 h2
          simp at e0 e1 e2
          subst e0 e1 e2
          have hsz := hD i hi
          have hx' : D i = _ := congrArg Prod.fst hx
          rw [hx'] at hsz
          simp at hsz
          obtain ⟨a, c, kk, rfl, hn, hk⟩ := ih (by omega) h3
          exact ⟨x0, x1, x2, a, c, kk, q1, hs, hn, hk⟩
      have hsp : ad.spot = none := by
        obtain ⟨_, _, _, _, _, _, q1, _⟩ := one 0 (by omega)
        obtain ⟨_, _, hc⟩ := World.cells?_some q1
        have := World.cell?_spot (hc 0 (by omega))
        simpa [Addr.add] using this
      obtain ⟨b, off, spot⟩ := ad
      simp only at hsp
      subst hsp
      have each : ∀ i, i < len → ∃ t : T, Lies W 0 t b (off + i * 4) := by
        intro i hi
        obtain ⟨k, s, mm, a, c, kk, q1, hs', hn', hk⟩ := one i hi
        obtain ⟨_, _, hc⟩ := World.cells?_some q1
        have g0 := hc 0 (by omega)
        have g1 := hc 1 (by omega)
        have g2 := hc 2 (by omega)
        have g3 := hc 3 (by omega)
        rw [add_plain, add_plain] at g0 g1 g2 g3
        refine ⟨.node k s mm kk, ?_⟩
        unfold Lies
        exact ⟨g0, g1, g2, hs', hn', a, c, g3, hk⟩
      have inh : Inhabited T := ⟨.node 0 ⟨#[]⟩ 0 []⟩
      obtain ⟨f, hf'⟩ := choose_lt each
      obtain ⟨ws, hwl, hws⟩ := list_of_fn f len
      refine ⟨some ⟨b, off, none⟩, cap, ws, by rw [hwl], by omega, .inr ⟨b, off, rfl, Nat.zero_le _, LiesL.of fun i t ht => ?_⟩⟩
      obtain ⟨hi, rfl⟩ := hws i t ht
      exact hf' i hi

theorem trod_struct5 {H : Type} {enc : TypeId × Value → H} {P : Program} {w : World} {base : Nat} {spare : Nat → Bool} {held : Bool} {t : TypeId} {f0 f1 f2 f3 f4 : Field} {fuel : Nat} {cs : List Value} {x : DataW H × List MemPlace} (ht : P.underlying t = some (.struct #[f0, f1, f2, f3, f4])) (h : DataW.trod enc P w base spare held fuel t cs = some x) :
    ∃ y0 y1 y2 y3 y4 n, x.1 = .agg [y0.1, y1.1, y2.1, y3.1, y4.1] ∧ cs.length = P.cellsOf t ∧ DataW.trod enc P w base spare held n f0.type ((cs.drop f0.offset).take (P.cellsOf f0.type)) = some y0 ∧
      DataW.trod enc P w base spare held n f1.type ((cs.drop f1.offset).take (P.cellsOf f1.type)) = some y1 ∧ DataW.trod enc P w base spare held n f2.type ((cs.drop f2.offset).take (P.cellsOf f2.type)) = some y2 ∧
      DataW.trod enc P w base spare held n f3.type ((cs.drop f3.offset).take (P.cellsOf f3.type)) = some y3 ∧ DataW.trod enc P w base spare held n f4.type ((cs.drop f4.offset).take (P.cellsOf f4.type)) = some y4 := by
  obtain ⟨xs, n, _, rfl, hl, hlen, hf⟩ := DataW.trod_struct ht h
  match xs, hlen with
  | [y0, y1, y2, y3, y4], _ => exact ⟨y0, y1, y2, y3, y4, n, by simp, hl, by simpa using hf 0 f0 rfl, by simpa using hf 1 f1 rfl, by simpa using hf 2 f2 rfl, by simpa using hf 3 f3 rfl, by simpa using hf 4 f4 rfl⟩
theorem list_of_fnE (f : Nat → Ed) (n : Nat) : ∃ ws : List Ed, ws.length = n ∧ ∀ i x, ws[i]? = some x → i < n ∧ x = f i := by
  refine ⟨(List.range n).map f, by simp, fun i x hx => ?_⟩
  obtain ⟨hi, e⟩ := List.getElem?_eq_some_iff.1 hx
  simp at hi e
  exact ⟨hi, e.symm⟩
theorem open_edges {H : Type} {enc : TypeId × Value → H} {W : World} {n : Nat} {v : Value} {x : DataW H × List MemPlace} (h : DataW.trod enc Tryd.prog W 0 (fun _ => true) true n 22 [v] = some x) :
    ∃ (a : Option Addr) (c : Nat) (es : List Ed), v = .slice a es.length c ∧ es.length ≤ maxLen ∧ KidsG W 0 a es := by
  rcases open_slice Tryd.underlying22 h with ⟨hcs, _⟩ | ⟨ad, len, cap, m', n2, D, Pl, hcs, _, hl, hm, hmm, hy, hall⟩
  · simp at hcs
    subst hcs
    exact ⟨none, 0, [], rfl, by simp, .inl rfl⟩
  · simp at hcs
    subst hcs
    simp only [if_true] at hmm
    rw [Tryd.cells61] at hall
    by_cases h0 : len = 0
    · subst h0
      exact ⟨some ad, cap, [], rfl, by simp, .inl rfl⟩
    have one : ∀ i, i < len → ∃ (f t e : Int) (y : Bool) (k : Int) (s : ByteArray) (mm : Int) (a : Option Addr) (c : Nat) (kk : List T), W.cells? 0 (ad.add (i * 8)) 8 = some [.int .i64 f, .int .i64 t, .int .i64 e, .bool y, .int .i64 k, .string s, .int .i64 mm, .slice a kk.length c] ∧ s.size ≤ maxLen ∧ kk.length ≤ maxLen ∧ Kids W 0 a kk := by
      intro i hi
      obtain ⟨cs', q1, q2⟩ := hall i (by omega)
      obtain ⟨y0, y1, y2, y3, y4, n', hx, hlen, h0, h1, h2, h3, h4⟩ := trod_struct5 Tryd.underlying61 q2
      rw [Tryd.cells61] at hlen
      match cs', hlen with
      | [c0, c1, c2, c3, c4, c5, c6, c7], _ =>
        simp [Tryd.cells3, Tryd.cells4, Tryd.cells59] at h0 h1 h2 h3 h4
        obtain ⟨x0, e0, _, _⟩ := DataW.trod_int Tryd.underlying3 h0
        obtain ⟨x1, e1, _, _⟩ := DataW.trod_int Tryd.underlying3 h1
        obtain ⟨x2, e2, _, _⟩ := DataW.trod_int Tryd.underlying3 h2
        obtain ⟨x3, e3, _⟩ := DataW.trod_bool Tryd.underlying4 h3
        simp at e0 e1 e2 e3
        subst e0 e1 e2 e3
        obtain ⟨z0, z1, z2, z3, n'', hx', hlen', g0, g1, g2, g3⟩ := trod_struct4 Tryd.underlying59 h4
        simp [Tryd.cells3, Tryd.cells9, Tryd.cells57] at g0 g1 g2 g3
        obtain ⟨x4, e4, _, _⟩ := DataW.trod_int Tryd.underlying3 g0
        obtain ⟨x5, e5, _, hs⟩ := DataW.trod_string Tryd.underlying9 g1
        obtain ⟨x6, e6, _, _⟩ := DataW.trod_int Tryd.underlying3 g2
        simp at e4 e5 e6
        subst e4 e5 e6
        obtain ⟨a, c, kk, rfl, hn, hk⟩ := open_kids _ (Nat.lt_succ_self _) g3
        exact ⟨x0, x1, x2, x3, x4, x5, x6, a, c, kk, q1, hs, hn, hk⟩
    have hsp : ad.spot = none := by
      obtain ⟨_, _, _, _, _, _, _, _, _, _, q1, _⟩ := one 0 (by omega)
      obtain ⟨_, _, hc⟩ := World.cells?_some q1
      have := World.cell?_spot (hc 0 (by omega))
      simpa [Addr.add] using this
    obtain ⟨b, off, spot⟩ := ad
    simp only at hsp
    subst hsp
    have each : ∀ i, i < len → ∃ e : Ed, EdAt W 0 e b (off + i * 8) := by
      intro i hi
      obtain ⟨f, t, e, y, k, s, mm, a, c, kk, q1, hs', hn', hk⟩ := one i hi
      obtain ⟨_, _, hc⟩ := World.cells?_some q1
      have g0 := hc 0 (by omega)
      have g1 := hc 1 (by omega)
      have g2 := hc 2 (by omega)
      have g3 := hc 3 (by omega)
      have g4 := hc 4 (by omega)
      have g5 := hc 5 (by omega)
      have g6 := hc 6 (by omega)
      have g7 := hc 7 (by omega)
      rw [add_plain, add_plain] at g0 g1 g2 g3 g4 g5 g6 g7
      refine ⟨⟨f, t, e, y, .node k s mm kk⟩, g0, g1, g2, g3, ?_⟩
      unfold Lies
      exact ⟨g4, g5, g6, hs', hn', a, c, g7, hk⟩
    have inh : Inhabited Ed := ⟨⟨0, 0, 0, false, .node 0 ⟨#[]⟩ 0 []⟩⟩
    obtain ⟨f, hf'⟩ := choose_lt each
    obtain ⟨ws, hwl, hws⟩ := list_of_fnE f len
    refine ⟨some ⟨b, off, none⟩, cap, ws, by rw [hwl], by omega, .inr ⟨b, off, rfl, Nat.zero_le _, fun i t ht => ?_⟩⟩
    obtain ⟨hi, rfl⟩ := hws i t ht
    exact hf' i hi
end Go.Proofs.YtpikgigfeifliaaDoor
