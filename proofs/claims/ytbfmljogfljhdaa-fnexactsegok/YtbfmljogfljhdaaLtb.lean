/-
  CONTRACTS of the law's toBoolS.
-/
import Derived.Test.YtbfmljogfljhdaaRm
namespace Go.Proofs.Ytbfmljogfljhdaa
open Go.RowKit

theorem Try.info4 : (Try.prog.info? 4).map (fun i => (i.zero, i.size, i.bytes)) = some (some (.bool false), 1, 1) := by kernel_rfl
set_option maxRecDepth 100000 in
set_option maxHeartbeats 1600000 in
theorem toBoolS_any (l : List Bool) (a : Option Addr) (c : Nat) (w : World) (hn : l.length ≤ 1048576) (hl : At eB w a l) :
    Calls Try.prog 25 #[.slice a l.length c] w fun e w' => ∃ g, e = .returned (.slice (some ⟨g, 0, none⟩) l.length l.length) ∧ Own eB 4 w' w.heap.size (.slice (some ⟨g, 0, none⟩) l.length l.length) l ∧ Below w.heap.size w w' := by
  obtain ⟨i0, hi, hz⟩ := Option.map_eq_some_iff.1 Try.info4
  simp only [Prod.mk.injEq] at hz
  obtain ⟨hz0, hz1, hz2⟩ := hz
  obtain ⟨w1, hmk, hown0, hg0⟩ := run_make_full (P := Try.prog) w w.heap.size 24 4 i0 _ 1 Try.underlying24 hi hz0 hz1 .i64 .i64 l.length (by rw [hz2]; omega) (by unfold maxLen; omega) (Nat.le_refl _)
  obtain ⟨g, hgg⟩ : ∃ g, w.heap.size = g := ⟨_, rfl⟩
  have HGG := mkHid hgg
  rw [hgg] at hmk hown0
  have HL := mkHid hl
  have HO := mkHid hown0
  have HG := mkHid (Below.grown (Below.refl w.heap.size w) hg0 (Nat.le_refl _) (fun k hk => by cases hk))
  clear hl hown0 hg0 hi hz0 hz1 hz2 hgg
  go_enter Try.func25, Try.ntmps25
  go_wp2
  go_loopw [4] (fun i w' => ∃ (k : Nat) (xs : List Value), k ≤ l.length ∧ i = .int .i64 k ∧ w'.ownsRow g 4 1 (.slice (some ⟨g, 0, none⟩) l.length l.length) l.length xs ∧ xs.take (k * 1) = eB.flat (l.take k) ∧ Below w.heap.size w w') (fun i _ => l.length - (intOf i).toNat)
  case atStart => exact ⟨0, _, Nat.zero_le _, rfl, HO.out, by simp [El.flat], HG.out⟩
  case round =>
    obtain ⟨k, xs, hk, rfl, hown, htake, hbel⟩ := hrel
    have HW := mkHid hown
    have HT := mkHid htake
    have HB := mkHid hbel
    clear hown htake hbel HO HG hmk
    by_cases hlt : k < l.length
    · obtain ⟨x, hx⟩ : ∃ x, l[k]? = some x := ⟨_, List.getElem?_eq_getElem hlt⟩
      obtain ⟨b, o, rfl, _, hl⟩ := (HL.out.below HB.out).cons (by omega)
      have c0 := get_b hl hx
      have HX := mkHid hx
      clear hl hx
      have i0 : (0 : Int) ≤ (k : Int) := by omega
      have i1 : (k : Int) < (l.length : Int) := by omega
      have HW1 := HW
      have HB1 := HB
      have hxl := HW1.out.1
      obtain ⟨u0, y0⟩ : ∃ v, wr.cell? ⟨g, k, none⟩ = some v := ⟨_, (HW1.out.cellAt (k) (by omega)).trans (List.getElem?_eq_getElem (by omega))⟩
      have z0 := HW1.out.frozenAt (k)
      clear hxl
      have HA0 := mkHid (HW1.out.stored (k) (.bool x))
      go_wp2
      go_roundw
      case rel =>
        refine ⟨k + 1, _, by omega, by go_num, HA0.out.1, step_b HX.out HW1.out.1 HT.out, ?_⟩
        exact HB1.out.setCell (p := ⟨g, k, none⟩) (Nat.le_of_eq HGG.out) _
      case measure => simp [intOf]; omega
    · have e : k = l.length := by omega
      subst e
      have hown := HW.out
      rw [flat_upto (E := eB) HW.out.1 HT.out] at hown
      have HW := mkHid hown
      clear hown HT
      go_wp2
      go_ret
      exact ⟨g, rfl, by rw [HGG.out]; exact HW.out, HB.out⟩
end Go.Proofs.Ytbfmljogfljhdaa
