/-
  WHAT A READER LEANS ON: the library's variables, kept wherever nothing old turns; strings.Cut and strconv.Atoi by it.
-/
import Derived.Test.YtgkmpadeleebdaaDoorShelfr
import Derived.Test.YtgkmpadeleebdaaDoorPr
import Derived.Lib.AtoiErrMem
namespace Go.Proofs.YtgkmpadeleebdaaDoor
open Go.RowKit

structure Env (w : World) : Prop where
  tab : Tab w
  es : ∃ tp p, w.var? Tryd.prog "strconv.ErrSyntax" = some #[.iface tp p]
  er : ∃ tp p, w.var? Tryd.prog "strconv.ErrRange" = some #[.iface tp p]
  ml : ∃ m, w.cell? ⟨0, 0, none⟩ = some (.int .i64 m)
theorem var_below {w w' : World} {n : String} {cs : Array Value} (h : w.var? Tryd.prog n = some cs) (hb : Below w.heap.size w w') : w'.var? Tryd.prog n = some cs := by
  unfold World.var? at h ⊢
  cases hg : Tryd.prog.globalNamed n with
  | none => rw [hg] at h; cases h
  | some g =>
    rw [hg] at h
    simp only [Option.bind_some] at h ⊢
    have hlt : g < w.heap.size := by
      by_cases q : g < w.heap.size
      · exact q
      · rw [Array.getElem?_eq_none (by omega)] at h; cases h
    rw [hb.block g hlt]
    exact h
theorem Env.below {w w' : World} (h : Env w) (hb : Below w.heap.size w w') : Env w' := by
  obtain ⟨tp, p, h1⟩ := h.es
  obtain ⟨tq, q, h2⟩ := h.er
  obtain ⟨m, h3⟩ := h.ml
  exact ⟨fun W hW => h.tab W (below_step hb hW), ⟨tp, p, var_below h1 hb⟩, ⟨tq, q, var_below h2 hb⟩, ⟨m, (hb.cell (p := ⟨0, 0, none⟩) (World.block_lt_of_cell? _ _ h3)).trans h3⟩⟩
def cutA (s sep : List UInt8) : ByteArray := ⟨(Lib.cut s sep).1.toArray⟩
def cutB (s sep : List UInt8) : ByteArray := ⟨(Lib.cut s sep).2.1.toArray⟩
theorem cut_len (s sep : List UInt8) : (Lib.cut s sep).1.length ≤ s.length ∧ (Lib.cut s sep).2.1.length ≤ s.length := by
  unfold Lib.cut
  split
  · exact ⟨by rw [List.length_take]; omega, by rw [List.length_drop]; omega⟩
  · exact ⟨Nat.le_refl _, Nat.zero_le _⟩
theorem cutA_size (s : ByteArray) (sep : List UInt8) : (cutA s.data.toList sep).size ≤ s.size := by
  have h := (cut_len s.data.toList sep).1
  rw [ba_len] at h
  exact h
theorem cutB_size (s : ByteArray) (sep : List UInt8) : (cutB s.data.toList sep).size ≤ s.size := by
  have h := (cut_len s.data.toList sep).2
  rw [ba_len] at h
  exact h
theorem below_drewN (w : World) (n : Nat) : Below w.heap.size w (w.drewN n) := ⟨rfl, rfl, rfl, Nat.le_refl _, fun _ _ => rfl⟩
theorem cut_any (s sep : ByteArray) (w : World) (hE : Env w) (hs : s.size < 4294967281) : Calls Tryd.prog 39 #[.string s, .string sep] w fun e w' => (∃ b, e = .returned (.tuple #[.string (cutA s.data.toList sep.data.toList), .string (cutB s.data.toList sep.data.toList), .bool b])) ∧ Below w.heap.size w w' := by
  obtain ⟨m, hm⟩ := hE.ml
  refine (Tryd.strings_Cut s sep m w hs hm).mono ?_
  rintro e w' ⟨rfl, n, rfl⟩
  exact ⟨⟨_, rfl⟩, below_drewN w n⟩
/-- Atoi: the number and no error, or an error. -/
theorem atoi_any (s : ByteArray) (w : World) (hE : Env w) (hs : s.size ≤ 281474976710656) : Calls Tryd.prog 40 #[.string s] w fun e w' => ∃ n ev, e = .returned (.tuple #[.int .i64 n, ev]) ∧ ((ev = .nilIface ∧ Lib.atoiAll s.data.toList = .ok n) ∨ ((∃ tp p, ev = .iface tp p) ∧ ∀ m, Lib.atoiAll s.data.toList ≠ .ok m)) ∧ Below w.heap.size w w' := by
  cases h : Lib.atoiAll s.data.toList with
  | ok v =>
    refine (Tryd.strconv_Atoi_ok s (by omega) v h w).mono ?_
    rintro e w' ⟨rfl, hw⟩
    refine ⟨v, _, rfl, .inl ⟨rfl, rfl⟩, ?_⟩
    rcases hw with rfl | ⟨t, rfl⟩
    · exact Below.refl _ _
    · exact Lib.bytesWorld_below w 5 t
  | «syntax» =>
    obtain ⟨tp, p, hv⟩ := hE.es
    refine (Tryd.strconv_Atoi_syntax_var s hs h tp p w hv).mono ?_
    rintro e w' ⟨N, rfl, _, _, hb⟩
    exact ⟨_, _, rfl, .inr ⟨⟨_, _, rfl⟩, fun m e => by cases e⟩, hb⟩
  | range =>
    obtain ⟨tp, p, hv⟩ := hE.er
    refine (Tryd.strconv_Atoi_range_var s hs h tp p w hv).mono ?_
    rintro e w' ⟨N, rfl, _, _, hb⟩
    exact ⟨_, _, rfl, .inr ⟨⟨_, _, rfl⟩, fun m e => by cases e⟩, hb⟩
end Go.Proofs.YtgkmpadeleebdaaDoor
