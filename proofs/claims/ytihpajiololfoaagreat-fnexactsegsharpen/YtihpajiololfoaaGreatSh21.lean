/-
  ROWS OF INTS OF ONE'S OWN; CONTRACTS of the law's eqIntS, markIntS, heldIntS, toIntS.
-/
import Derived.Test.YtihpajiololfoaaGreatSh20
import Derived.Deep.AppendLies
import Derived.Deep.Onto
import Derived.Deep.QuietTactic
import Derived.BigQuiet
namespace Go.Proofs.YtihpajiololfoaaGreat.Q
open Go.RowKit

theorem owns_below {w w' : World} {base e size n : Nat} {v : Value} {xs : List Value} (h : w.ownsRow base e size v n xs) (hb : Below w.heap.size w w') : w'.ownsRow base e size v n xs :=
  h.kept (row := none) ⟨hb.os, hb.tape, hb.output, hb.size, fun k hk _ => hb.block k hk⟩ (by cases v.ownBlock <;> simp)

def ints (l : List Int) : List Value := l.map (Value.int .i64)
theorem ints_len (l : List Int) : (ints l).length = l.length := by simp [ints]
theorem ints_get {l : List Int} {i : Nat} : (ints l)[i]? = (l[i]?).map (Value.int .i64) := by simp [ints]
theorem ints_set (l : List Int) (i : Nat) (x : Int) : (ints l).set i (.int .i64 x) = ints (l.set i x) := by simp [ints]
/-- A slice of our own that holds these ints. -/
def OwnI (w : World) (base : Nat) (v : Value) (l : List Int) : Prop := w.ownsRow base 3 1 v l.length (ints l)
theorem OwnI.below {w w' : World} {base : Nat} {v : Value} {l : List Int} (h : OwnI w base v l) (hb : Below w.heap.size w w') : OwnI w' base v l := owns_below h hb
theorem OwnI.form {w : World} {base : Nat} {v : Value} {l : List Int} (h : OwnI w base v l) : ∃ ao cap, v = .slice ao l.length cap := by
  rcases h.2 with ⟨rfl, h0⟩ | ⟨g, cap, cur, rfl, _⟩
  · exact ⟨none, 0, by rw [h0]⟩
  · exact ⟨_, _, rfl⟩
theorem OwnI.mono {w : World} {base base' : Nat} {v : Value} {l : List Int} (h : OwnI w base v l) (hb : base' ≤ base) : OwnI w base' v l := World.ownsRow.mono h hb
theorem OwnI.nil (w : World) (base : Nat) : OwnI w base (.slice none 0 0) [] := ⟨rfl, .inl ⟨rfl, rfl⟩⟩
theorem OwnI.fresh {w' : World} {g base : Nat} (hb : base ≤ g) (hg : w'.heap[g]? = some (.cells #[] 3 (0, 0))) : OwnI w' base (.slice (some ⟨g, 0, none⟩) 0 0) [] :=
  ⟨rfl, .inr ⟨g, 0, #[], rfl, hb, hg, Nat.le_refl _, by unfold maxLen; omega, rfl, rfl⟩⟩
/-- Ints that lie somewhere, to be read. -/
def IntsAt (w : World) (a : Option Addr) (l : List Int) : Prop := l = [] ∨ ∃ b o, a = some ⟨b, o, none⟩ ∧ ∀ (i : Nat) (x : Int), l[i]? = some x → w.cell? ⟨b, o + i, none⟩ = some (.int .i64 x)
theorem IntsAt.below {w w' : World} {a : Option Addr} {l : List Int} (h : IntsAt w a l) (hb : Below w.heap.size w w') : IntsAt w' a l := by
  rcases h with h | ⟨b, o, e, h⟩
  · exact .inl h
  · refine .inr ⟨b, o, e, fun i x hx => ?_⟩
    have h1 := h i x hx
    exact (hb.cell (p := ⟨b, o + i, none⟩) (World.block_lt_of_cell? w _ h1)).trans h1
theorem OwnI.at {w : World} {base : Nat} {ao : Option Addr} {n cap : Nat} {l : List Int} (h : OwnI w base (.slice ao n cap) l) : IntsAt w ao l := by
  rcases h.2 with ⟨e, h0⟩ | ⟨g, cap', cur, e, _⟩
  · exact .inl (List.length_eq_zero_iff.1 h0)
  · simp at e
    obtain ⟨rfl, rfl, rfl⟩ := e
    refine .inr ⟨g, 0, rfl, fun i x hx => ?_⟩
    have hi := (List.getElem?_eq_some_iff.1 hx).1
    have := World.ownsRow.cellAt h i (by omega)
    rw [Nat.zero_add, this, ints_get, hx]; rfl

set_option maxHeartbeats 800000 in
theorem eqIntS_of (l : List Int) (b off c b' off' c' : Nat) (w : World) (hn : l.length ≤ maxLen) (hl : ∀ (i : Nat) (x : Int), l[i]? = some x → w.cell? ⟨b, off + i, none⟩ = some (.int .i64 x)) (hl' : ∀ (i : Nat) (x : Int), l[i]? = some x → w.cell? ⟨b', off' + i, none⟩ = some (.int .i64 x)) :
    Calls Tryz.prog 49 #[.slice (some ⟨b, off, none⟩) l.length c, .slice (some ⟨b', off', none⟩) l.length c'] w fun e w' => e = .returned (.bool true) ∧ Below w.heap.size w w' := by
  unfold maxLen at hn
  have HL := mkHid hl
  have HL' := mkHid hl'
  clear hl hl'
  go_enter Tryz.func49, Tryz.ntmps49
  go_wp2
  go_loopw [5] (fun i w' => ∃ (k : Nat), k ≤ l.length ∧ i = .int .i64 k ∧ Below w.heap.size w w') (fun i _ => l.length - (intOf i).toNat)
  case atStart => exact ⟨0, Nat.zero_le _, rfl, Below.refl _ _⟩
  case round =>
    obtain ⟨k, hk, rfl, hbel⟩ := hrel
    have HB := mkHid hbel
    by_cases hlt : k < l.length
    · obtain ⟨x, hx⟩ : ∃ x, l[k]? = some x := ⟨_, List.getElem?_eq_getElem hlt⟩
      have h1 := HL.out k x hx
      have h2 := HL'.out k x hx
      have hc1 : wr.cell? ⟨b, off + k, none⟩ = some (.int .i64 x) := (hbel.cell (p := ⟨b, off + k, none⟩) (World.block_lt_of_cell? w _ h1)).trans h1
      have hc2 : wr.cell? ⟨b', off' + k, none⟩ = some (.int .i64 x) := (hbel.cell (p := ⟨b', off' + k, none⟩) (World.block_lt_of_cell? w _ h2)).trans h2
      clear hx h1 h2 hbel
      have i0 : (0 : Int) ≤ (k : Int) := by omega
      have i1 : (k : Int) < (l.length : Int) := by omega
      go_wp2
      go_quiet (fail)
      go_wp2
      go_roundw
      case rel => exact ⟨k + 1, by omega, by go_num, Below.trans HB.out ⟨rfl, rfl, rfl, Nat.le_refl _, fun _ _ => rfl⟩⟩
      case measure => simp [intOf]; omega
    · go_wp2
      go_ret
      exact ⟨rfl, HB.out⟩

set_option maxRecDepth 100000 in
set_option maxHeartbeats 400000 in
theorem eqIntS_nil (a a' : Option Addr) (c c' : Nat) (w : World) : Calls Tryz.prog 49 #[.slice a 0 c, .slice a' 0 c'] w fun e w' => e = .returned (.bool true) ∧ Below w.heap.size w w' := by
  go_enter Tryz.func49, Tryz.ntmps49
  go_wp2
  go_loopw [5] (fun i w' => i = .int .i64 0 ∧ w' = w) (fun i _ => 0)
  case atStart => exact ⟨rfl, rfl⟩
  case round =>
    obtain ⟨rfl, rfl⟩ := hrel
    go_wp2
    go_ret
    exact ⟨rfl, Below.refl _ _⟩
theorem eqIntS_ok (l : List Int) (a a' : Option Addr) (c c' : Nat) (w : World) (hn : l.length ≤ maxLen) (hl : IntsAt w a l) (hl' : IntsAt w a' l) :
    Calls Tryz.prog 49 #[.slice a l.length c, .slice a' l.length c'] w fun e w' => e = .returned (.bool true) ∧ Below w.heap.size w w' := by
  rcases hl with rfl | ⟨b, o, rfl, hl⟩
  · exact eqIntS_nil a a' c c' w
  · rcases hl' with rfl | ⟨b', o', rfl, hl'⟩
    · exact eqIntS_nil _ a' c c' w
    · exact eqIntS_of l b o c b' o' c' w hn hl hl'
/-- What the law writes into a row. -/
def marksI (k : Int) (n : Nat) : List Int := (List.range n).map fun i => k + (i : Nat)
theorem marksI_len (k : Int) (n : Nat) : (marksI k n).length = n := by simp [marksI]
theorem marksI_get {k : Int} {n i : Nat} (h : i < n) : (marksI k n)[i]? = some (k + i) := by simp [marksI, h]
theorem ret_int' {k : IntKind} {a b : Int} (h : a = b) : Ending.returned (.int k a) = .returned (.int k b) := by rw [h]

set_option maxHeartbeats 800000 in
theorem markIntS_of (l : List Int) (g cap base : Nat) (k0 : Int) (w : World) (hn : l.length ≤ 10000000) (h0 : 0 ≤ k0) (h1 : k0 ≤ 10000000) (hown : OwnI w base (.slice (some ⟨g, 0, none⟩) l.length cap) l) :
    Calls Tryz.prog 53 #[.slice (some ⟨g, 0, none⟩) l.length cap, .int .i64 k0] w fun e w' => e = .returned (.int .i64 (k0 + l.length)) ∧ OwnI w' base (.slice (some ⟨g, 0, none⟩) l.length cap) (marksI k0 l.length) ∧ w.grownBy w' (some g) := by
  have HO := mkHid hown
  clear hown
  go_enter Tryz.func53, Tryz.ntmps53
  go_wp2
  go_loopw [1, 5] (fun kv i w' => ∃ (j : Nat) (m : List Int), j ≤ l.length ∧ m.length = l.length ∧ i = .int .i64 j ∧ kv = .int .i64 (k0 + j) ∧ w'.ownsRow base 3 1 (.slice (some ⟨g, 0, none⟩) l.length cap) l.length (ints m) ∧ (∀ q, q < j → m[q]? = some (k0 + (q : Nat))) ∧ w.grownBy w' (some g)) (fun _ i _ => l.length - (intOf i).toNat)
  case atStart => exact ⟨0, l, Nat.zero_le _, rfl, rfl, by simp, HO.out, fun q hq => by omega, World.grownBy.refl _ _⟩
  case round =>
    obtain ⟨j, m, hj, hm, rfl, rfl, hown, hmk, hg⟩ := hrel
    have HW := mkHid hown
    have HM := mkHid hm
    have HK := mkHid hmk
    have HG := mkHid hg
    clear hown hmk hg HO hm
    by_cases hlt : j < l.length
    · obtain ⟨v0, c0⟩ : ∃ v, wr.cell? ⟨g, j, none⟩ = some v := ⟨_, (HW.out.cellAt j (by omega)).trans (List.getElem?_eq_getElem (by rw [ints_len, HM.out]; exact hlt))⟩
      have f0 := HW.out.frozenAt j
      go_wp2
      go_roundw
      case rel =>
        have hs := HW.out.stored j (.int .i64 (k0 + j))
        rw [ints_set] at hs
        refine ⟨j + 1, m.set j (k0 + j), by omega, by simpa using HM.out, by go_num, ?_, hs.1, fun q hq => ?_, World.grownBy.trans HG.out hs.2⟩
        · congr 1; omega
        · rw [List.getElem?_set]
          have hml := HM.out
          rcases (by omega : q < j ∨ q = j) with h | rfl
          · rw [if_neg (by omega)]; exact HK.out q h
          · rw [if_pos rfl, if_pos (by omega)]
      case measure => simp [intOf]; omega
    · have e : j = l.length := by omega
      subst e
      have em : m = marksI k0 l.length := by
        apply List.ext_getElem?
        intro q
        by_cases hq : q < l.length
        · rw [HK.out q hq, marksI_get hq]
        · rw [List.getElem?_eq_none (by have := HM.out; omega), List.getElem?_eq_none (by rw [marksI_len]; omega)]
      have hw := HW.out
      rw [em] at hw
      have HW := mkHid hw
      clear hw em
      go_wp2
      go_ret
      refine ⟨rfl, ?_, HG.out⟩
      unfold OwnI
      rw [marksI_len]
      exact HW.out
set_option maxHeartbeats 400000 in
theorem markIntS_nil (a : Option Addr) (c : Nat) (k0 : Int) (w : World) :
    Calls Tryz.prog 53 #[.slice a 0 c, .int .i64 k0] w fun e w' => e = .returned (.int .i64 k0) ∧ w' = w := by
  go_enter Tryz.func53, Tryz.ntmps53
  go_wp2
  go_loopw [1, 5] (fun kv i w' => i = .int .i64 0 ∧ kv = .int .i64 k0 ∧ w' = w) (fun _ i _ => 0)
  case atStart => exact ⟨rfl, rfl, rfl⟩
  case round =>
    obtain ⟨rfl, rfl, rfl⟩ := hrel
    go_wp2
    go_ret
    exact ⟨rfl, rfl⟩
theorem markIntS_ok (l : List Int) (ao : Option Addr) (cap base : Nat) (k0 : Int) (w : World) (hn : l.length ≤ 10000000) (h0 : 0 ≤ k0) (h1 : k0 ≤ 10000000) (hown : OwnI w base (.slice ao l.length cap) l) :
    Calls Tryz.prog 53 #[.slice ao l.length cap, .int .i64 k0] w fun e w' => e = .returned (.int .i64 (k0 + l.length)) ∧ OwnI w' base (.slice ao l.length cap) (marksI k0 l.length) ∧ w.grownBy w' (Value.ownBlock (.slice ao l.length cap)) := by
  rcases hown.2 with ⟨e, h⟩ | ⟨g, cap', cur, e, _⟩
  · have hl := List.length_eq_zero_iff.1 h
    subst hl
    refine (markIntS_nil ao cap k0 w).mono ?_
    rintro e w' ⟨rfl, rfl⟩
    exact ⟨ret_int' (by simp), hown, World.grownBy.refl _ _⟩
  · simp at e
    obtain ⟨rfl, rfl⟩ := e
    exact markIntS_of l g cap base k0 w hn h0 h1 hown

theorem Tryz.info3 : (Tryz.prog.info? 3).map (fun i => (i.zero, i.size, i.bytes)) = some (some (.int .i64 0), 1, 8) := by kernel_rfl
theorem values_l {xs : List Value} {l : List Int} (hl : xs.length = l.length) (h : ∀ j, j < l.length → xs[j]? = (l[j]?).map (Value.int .i64)) : xs = ints l := by
  apply List.ext_getElem?
  intro q
  by_cases hq : q < l.length
  · rw [h q hq, ints_get]
  · rw [List.getElem?_eq_none (by omega), List.getElem?_eq_none (by rw [ints_len]; omega)]

set_option maxHeartbeats 1600000 in
theorem toIntS_ok (l : List Int) (a : Option Addr) (c : Nat) (w : World) (hn : l.length ≤ 1048576) (hl : IntsAt w a l) :
    Calls Tryz.prog 40 #[.slice a l.length c] w fun e w' => e = .returned (.slice (some ⟨w.heap.size, 0, none⟩) l.length l.length) ∧ OwnI w' w.heap.size (.slice (some ⟨w.heap.size, 0, none⟩) l.length l.length) l ∧ Below w.heap.size w w' := by
  obtain ⟨i0, hi, hz⟩ := Option.map_eq_some_iff.1 Tryz.info3
  simp only [Prod.mk.injEq] at hz
  obtain ⟨hz0, hz1, hz2⟩ := hz
  obtain ⟨w1, hmk, hown0, hg0⟩ := run_make_full (P := Tryz.prog) w w.heap.size 27 3 i0 _ 1 Tryz.underlying27 hi hz0 hz1 .i64 .i64 l.length (by rw [hz2]; omega) (by unfold maxLen; omega) (Nat.le_refl _)
  have HL := mkHid hl
  have HO := mkHid hown0
  have HG := mkHid (Below.grown (Below.refl w.heap.size w) hg0 (Nat.le_refl _) (fun k hk => by cases hk))
  clear hl hown0 hg0 hi hz0 hz1 hz2
  go_enter Tryz.func40, Tryz.ntmps40
  go_wp2
  go_loopw [4] (fun i w' => ∃ (k : Nat) (xs : List Value), k ≤ l.length ∧ i = .int .i64 k ∧ w'.ownsRow w.heap.size 3 1 (.slice (some ⟨w.heap.size, 0, none⟩) l.length l.length) l.length xs ∧ (∀ j, j < k → xs[j]? = (l[j]?).map (Value.int .i64)) ∧ Below w.heap.size w w') (fun i _ => l.length - (intOf i).toNat)
  case atStart => exact ⟨0, _, Nat.zero_le _, rfl, by simpa using HO.out, fun j hj => by omega, HG.out⟩
  case round =>
    obtain ⟨k, xs, hk, rfl, hown, hdone, hbel⟩ := hrel
    have HW := mkHid hown
    have HD := mkHid hdone
    have HB := mkHid hbel
    clear hown hdone hbel HO HG hmk
    by_cases hlt : k < l.length
    · obtain ⟨x, hx⟩ : ∃ x, l[k]? = some x := ⟨_, List.getElem?_eq_getElem hlt⟩
      obtain ⟨b, o, rfl, hl⟩ : ∃ b o, a = some ⟨b, o, none⟩ ∧ ∀ (i : Nat) (x : Int), l[i]? = some x → w.cell? ⟨b, o + i, none⟩ = some (.int .i64 x) := by
        rcases HL.out with h | h
        · subst h; simp at hlt
        · exact h
      have c1 := (HB.out.cell (p := ⟨b, o + k, none⟩) (World.block_lt_of_cell? w _ (hl k x hx))).trans (hl k x hx)
      have hxl := HW.out.1
      obtain ⟨v0, c0⟩ : ∃ v, wr.cell? ⟨w.heap.size, k, none⟩ = some v := ⟨_, (HW.out.cellAt k (by omega)).trans (List.getElem?_eq_getElem (by omega))⟩
      have f0 := HW.out.frozenAt k
      have HX := mkHid hx
      clear hxl hx hl
      have k2 : (0 : Int) ≤ (k : Int) := by omega
      have k3 : (k : Int) < (l.length : Int) := by omega
      go_wp2
      go_roundw
      case rel =>
        have hs := HW.out.stored k (.int .i64 x)
        refine ⟨k + 1, _, by omega, by go_num, hs.1, fun q hq => ?_, HB.out.setCell (p := ⟨w.heap.size, k, none⟩) (Nat.le_refl _) _⟩
        have hml := HW.out.1
        rw [List.getElem?_set]
        rcases (by omega : q < k ∨ q = k) with h | rfl
        · rw [if_neg (by omega)]; exact HD.out q h
        · rw [if_pos rfl, if_pos (by omega), HX.out]; rfl
      case measure => simp [intOf]; omega
    · have e : k = l.length := by omega
      subst e
      have hown := HW.out
      rw [values_l (by have := HW.out.1; omega) HD.out] at hown
      have HW := mkHid hown
      clear hown HD
      go_wp2
      go_ret
      exact ⟨rfl, HW.out, HB.out⟩
theorem toIntS_any (l : List Int) (a : Option Addr) (c : Nat) (w : World) (hn : l.length ≤ 1048576) (hl : IntsAt w a l) :
    Calls Tryz.prog 40 #[.slice a l.length c] w fun e w' => ∃ g, e = .returned (.slice (some ⟨g, 0, none⟩) l.length l.length) ∧ OwnI w' w.heap.size (.slice (some ⟨g, 0, none⟩) l.length l.length) l ∧ Below w.heap.size w w' :=
  (toIntS_ok l a c w hn hl).mono fun _ _ h => ⟨_, h⟩
theorem OwnI.grown {w w' : World} {base : Nat} {v : Value} {l : List Int} {row : Option Nat} (h : OwnI w base v l) (ho : w.grownBy w' row) (hq : ∀ q, v.ownBlock = some q → row ≠ some q) : OwnI w' base v l := by
  refine ⟨h.1, ?_⟩
  rcases h.2 with h0 | ⟨g, cap, cur, rfl, e2, e3, e4⟩
  · exact .inl h0
  · have hlt : g < w.heap.size := (Array.getElem?_eq_some_iff.1 e3).1
    exact .inr ⟨g, cap, cur, rfl, e2, (ho.block g hlt (fun e => hq g rfl e.symm)).trans e3, e4⟩
theorem OwnI.lt {w : World} {base : Nat} {v : Value} {l : List Int} (h : OwnI w base v l) {q : Nat} (hq : v.ownBlock = some q) : base ≤ q ∧ q < w.heap.size := World.ownsRow.lt h q hq
end Go.Proofs.YtihpajiololfoaaGreat.Q
