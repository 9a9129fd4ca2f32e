/-
  WORDS IN MEMORY: what it means that a slice holds a list of words; that this stays so where old blocks stay as they were.
-/
import Derived.Test.YthaehhndfahocaaLawA
namespace Go.Proofs.Ythaehhndfahocaa
open Go.RowKit
open Pl

/-- A word as data. -/
structure W3 where
  k : Int
  s : ByteArray
  a : Int

/-- The words lie from offset off on in block b. -/
def Lies (w : World) (b off : Nat) (ws : List W3) : Prop := ∀ i x, ws[i]? = some x →
  w.cell? ⟨b, off + i * 3, none⟩ = some (.int .i64 x.k) ∧ w.cell? ⟨b, off + i * 3 + 1, none⟩ = some (.string x.s) ∧ w.cell? ⟨b, off + i * 3 + 2, none⟩ = some (.int .i64 x.a)
theorem Lies.below {w w' : World} {b off : Nat} {ws : List W3} (h : Lies w b off ws) (hb : Below w.heap.size w w') : Lies w' b off ws := fun i x hx => by
  obtain ⟨h0, h1, h2⟩ := h i x hx
  have hlt := World.block_lt_of_cell? w _ h0
  exact ⟨(hb.cell (p := ⟨b, off + i * 3, none⟩) hlt).trans h0, (hb.cell (p := ⟨b, off + i * 3 + 1, none⟩) hlt).trans h1, (hb.cell (p := ⟨b, off + i * 3 + 2, none⟩) hlt).trans h2⟩
def Short (ws : List W3) : Prop := ∀ x ∈ ws, x.s.size ≤ maxLen

set_option maxHeartbeats 400000 in
theorem szWordS_any (ws : List W3) (b off cap : Nat) (w : World) (hn : ws.length ≤ maxLen) (hl : Lies w b off ws) (hss : Short ws) :
    Calls Try.prog 22 #[.slice (some ⟨b, off, none⟩) ws.length cap, .int .i64 1048576] w fun e w' => (∃ m : Int, e = .returned (.int .i64 m) ∧ (m < 0 ∨ (ws.length ≤ 1048576 ∧ ∀ x ∈ ws, x.s.size ≤ 1048576))) ∧ Below w.heap.size w w' := by
  unfold maxLen at hn
  have HL := mkHid hl
  have HS := mkHid hss
  clear hl hss
  by_cases h : 1048576 - (ws.length : Int) < 0
  · go_enter Try.func22, Try.ntmps22
    go_wp2
    go_ret
    exact ⟨⟨_, rfl, .inl (by decide)⟩, Below.refl _ _⟩
  · go_enter Try.func22, Try.ntmps22
    go_wp2
    go_loopw [1, 5] (fun l i w' => ∃ (k : Nat) (m : Int), k ≤ ws.length ∧ i = .int .i64 k ∧ l = .int .i64 m ∧ 0 ≤ m ∧ m ≤ 1048576 ∧ (∀ j x, j < k → ws[j]? = some x → x.s.size ≤ 1048576) ∧ Below w.heap.size w w') (fun _ i _ => ws.length - (intOf i).toNat)
    case atStart => exact ⟨0, _, Nat.zero_le _, rfl, rfl, by omega, by omega, fun j x hj => by omega, Below.refl _ _⟩
    case round =>
      obtain ⟨k, m, hk, rfl, rfl, hm0, hm1, hall, hbel⟩ := hrel
      have HA := mkHid hall
      have HB := mkHid hbel
      clear hall hbel
      by_cases hlt : k < ws.length
      · obtain ⟨x, hx⟩ : ∃ x, ws[k]? = some x := ⟨_, List.getElem?_eq_getElem hlt⟩
        have HX := mkHid hx
        have hc := HL.out.below HB.out k x hx
        have hxs : x.s.size ≤ maxLen := HS.out x (List.mem_of_getElem? hx)
        clear hx
        obtain ⟨hc0, hc1, hc2⟩ := hc
        go_wp2_with fail
        refine (szWord_any x.k x.s x.a m _ hxs hm0 hm1).mono ?_
        rintro e w1 ⟨⟨m1, rfl, hm⟩, hb1⟩
        have HB1 := mkHid (HB.out.trans (hb1.mono HB.out.size))
        clear hb1
        by_cases hneg : m1 < 0
        · clear hm
          go_wp2
          go_ret
          exact ⟨⟨_, rfl, .inl (by decide)⟩, HB1.out⟩
        · have HM := mkHid (show 0 ≤ m1 ∧ m1 ≤ 1048576 ∧ x.s.size ≤ 1048576 by omega)
          clear hm
          go_wp2
          go_roundw
          case rel =>
            exact ⟨k + 1, m1, by omega, by go_num, rfl, HM.out.1, HM.out.2.1, fun j y hj hy => by
              rcases (by omega : j < k ∨ j = k) with h | rfl
              · exact HA.out j y h hy
              · have := HX.out.symm.trans hy
                simp only [Option.some.injEq] at this
                subst this
                exact HM.out.2.2, HB1.out⟩
          case measure => simp [intOf]; omega
      · go_wp2
        go_ret
        refine ⟨⟨_, rfl, .inr ⟨by omega, fun x hx => ?_⟩⟩, HB.out⟩
        obtain ⟨j, hj, e⟩ := List.getElem_of_mem hx
        exact HA.out j x (by omega) (by rw [List.getElem?_eq_getElem hj, e])

set_option maxHeartbeats 400000 in
theorem eqWord_same (k : Int) (s : ByteArray) (a : Int) (w : World) :
    Calls Try.prog 42 #[.agg #[.int .i64 k, .string s, .int .i64 a], .agg #[.int .i64 k, .string s, .int .i64 a]] w fun e w' => e = .returned (.bool true) ∧ Below w.heap.size w w' := by
  go_enter Try.func42, Try.ntmps42
  go_wp2
  go_ret
  exact ⟨rfl, ((Below.refl _ _).alloc (Nat.le_refl _) _).alloc (by simp) _⟩

set_option maxHeartbeats 400000 in
theorem eqWordS_same (ws : List W3) (b off cap b' off' cap' : Nat) (w : World) (hn : ws.length ≤ maxLen) (hl : Lies w b off ws) (hl' : Lies w b' off' ws) :
    Calls Try.prog 14 #[.slice (some ⟨b, off, none⟩) ws.length cap, .slice (some ⟨b', off', none⟩) ws.length cap'] w fun e w' => e = .returned (.bool true) ∧ Below w.heap.size w w' := by
  unfold maxLen at hn
  have HL := mkHid hl
  have HL' := mkHid hl'
  clear hl hl'
  go_enter Try.func14, Try.ntmps14
  go_wp2
  go_loopw [5] (fun i w' => ∃ (k : Nat), k ≤ ws.length ∧ i = .int .i64 k ∧ Below w.heap.size w w') (fun i _ => ws.length - (intOf i).toNat)
  case atStart => exact ⟨0, Nat.zero_le _, rfl, Below.refl _ _⟩
  case round =>
    obtain ⟨k, hk, rfl, hbel⟩ := hrel
    have HB := mkHid hbel
    clear hbel
    by_cases hlt : k < ws.length
    · obtain ⟨x, hx⟩ : ∃ x, ws[k]? = some x := ⟨_, List.getElem?_eq_getElem hlt⟩
      obtain ⟨hc0, hc1, hc2⟩ := HL.out.below HB.out k x hx
      obtain ⟨hd0, hd1, hd2⟩ := HL'.out.below HB.out k x hx
      clear hx
      have hlb : b < wr.heap.size := World.block_lt_of_cell? wr _ hc0
      have hlb' : b' < wr.heap.size := World.block_lt_of_cell? wr _ hd0
      have i0 : (0 : Int) ≤ (k : Int) := by omega
      have i1 : (k : Int) < (ws.length : Int) := by omega
      go_wp2
      go_region_held3 (fun w' => w'.cell? ⟨b, off + k * 3, none⟩ = some (.int .i64 x.k) ∧ w'.cell? ⟨b, off + k * 3 + 1, none⟩ = some (.string x.s) ∧ w'.cell? ⟨b, off + k * 3 + 2, none⟩ = some (.int .i64 x.a) ∧ w'.cell? ⟨b', off' + k * 3, none⟩ = some (.int .i64 x.k) ∧ w'.cell? ⟨b', off' + k * 3 + 1, none⟩ = some (.string x.s) ∧ w'.cell? ⟨b', off' + k * 3 + 2, none⟩ = some (.int .i64 x.a)) (first | exact ⟨hc0, hc1, hc2, hd0, hd1, hd2⟩ | exact ⟨(hc _ _ hlb).trans hc0, (hc _ _ hlb).trans hc1, (hc _ _ hlb).trans hc2, (hc _ _ hlb').trans hd0, (hc _ _ hlb').trans hd1, (hc _ _ hlb').trans hd2⟩)
        (first | (go_at_call 42; refine (eqWord_same x.k x.s x.a _).mono ?_; rintro e w1 ⟨rfl, hb1⟩; obtain ⟨hc, hf⟩ := bcell hb1))
      have HB1 : Hid (Below w.heap.size w w1) := HB.out.drew.trans (hb1.mono HB.out.drew.size)
      clear hb1 hc hf
      go_wp2
      go_roundw
      case rel => exact ⟨k + 1, by omega, by go_num, HB1.out⟩
      case measure => simp [intOf]; omega
    · go_wp2
      go_ret
      exact ⟨rfl, HB.out⟩
end Go.Proofs.Ythaehhndfahocaa
