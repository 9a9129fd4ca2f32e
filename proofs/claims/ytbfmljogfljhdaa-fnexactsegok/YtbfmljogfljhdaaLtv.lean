/-
  CONTRACTS of the law's toValS.
-/
import Derived.Test.YtbfmljogfljhdaaRm
namespace Go.Proofs.Ytbfmljogfljhdaa
open Go.RowKit

theorem Try.info43 : (Try.prog.info? 43).map (fun i => (i.zero, i.size, i.bytes)) = some (some (.agg #[.int .i64 0, .int .i64 0, .bool false]), 3, 24) := by kernel_rfl
set_option maxRecDepth 100000 in
set_option maxHeartbeats 1600000 in
theorem toValS_any (l : List VV) (a : Option Addr) (c : Nat) (w : World) (hn : l.length ≤ 1048576) (hl : At eV w a l) :
    Calls Try.prog 24 #[.slice a l.length c] w fun e w' => ∃ g, e = .returned (.slice (some ⟨g, 0, none⟩) l.length l.length) ∧ Own eV 43 w' w.heap.size (.slice (some ⟨g, 0, none⟩) l.length l.length) l ∧ Below w.heap.size w w' := by
  obtain ⟨i0, hi, hz⟩ := Option.map_eq_some_iff.1 Try.info43
  simp only [Prod.mk.injEq] at hz
  obtain ⟨hz0, hz1, hz2⟩ := hz
  obtain ⟨w1, hmk, hown0, hg0⟩ := run_make_full (P := Try.prog) w w.heap.size 30 43 i0 _ 3 Try.underlying30 hi hz0 hz1 .i64 .i64 l.length (by rw [hz2]; omega) (by unfold maxLen; omega) (Nat.le_refl _)
  obtain ⟨g, hgg⟩ : ∃ g, w.heap.size = g := ⟨_, rfl⟩
  have HGG := mkHid hgg
  rw [hgg] at hmk hown0
  have HL := mkHid hl
  have HO := mkHid hown0
  have HG := mkHid (Below.grown (Below.refl w.heap.size w) hg0 (Nat.le_refl _) (fun k hk => by cases hk))
  clear hl hown0 hg0 hi hz0 hz1 hz2 hgg
  go_enter Try.func24, Try.ntmps24
  go_wp2
  go_loopw [4] (fun i w' => ∃ (k : Nat) (xs : List Value), k ≤ l.length ∧ i = .int .i64 k ∧ w'.ownsRow g 43 3 (.slice (some ⟨g, 0, none⟩) l.length l.length) l.length xs ∧ xs.take (k * 3) = eV.flat (l.take k) ∧ Below w.heap.size w w') (fun i _ => l.length - (intOf i).toNat)
  case atStart => exact ⟨0, _, Nat.zero_le _, rfl, HO.out, by simp [El.flat], HG.out⟩
  case round =>
    obtain ⟨k, xs, hk, rfl, hown, htake, hbel⟩ := hrel
    have HW := mkHid hown
    have HT := mkHid htake
    have HB := mkHid hbel
    clear hown htake hbel HO HG hmk
    by_cases hlt : k < l.length
    · obtain ⟨x, hx⟩ : ∃ x, l[k]? = some x := ⟨_, List.getElem?_eq_getElem hlt⟩
      obtain ⟨b, o, rfl, _, hl⟩ := (HL.out.below HB.out).cons (by omega)
      obtain ⟨c0, c1, c2⟩ := get_v hl hx
      have HX := mkHid hx
      clear hl hx
      have i0 : (0 : Int) ≤ (k : Int) := by omega
      have i1 : (k : Int) < (l.length : Int) := by omega
      go_wp2_with fail
      refine (toVal_any x.1 x.2.1 x.2.2 _).mono ?_
      rintro e w2 ⟨rfl, hb1⟩
      have HW1 := mkHid (owns_below HW.out hb1)
      have HB1 := mkHid (below_step HB.out hb1)
      have hxl := HW1.out.1
      clear hb1 HB HW c0 c1 c2
      obtain ⟨u0, y0⟩ : ∃ v, w2.cell? ⟨g, k * 3, none⟩ = some v := ⟨_, (HW1.out.cellAt (k * 3) (by omega)).trans (List.getElem?_eq_getElem (by omega))⟩
      have z0 := HW1.out.frozenAt (k * 3)
      obtain ⟨u1, y1⟩ : ∃ v, w2.cell? ⟨g, k * 3 + 1, none⟩ = some v := ⟨_, (HW1.out.cellAt (k * 3 + 1) (by omega)).trans (List.getElem?_eq_getElem (by omega))⟩
      have z1 := HW1.out.frozenAt (k * 3 + 1)
      obtain ⟨u2, y2⟩ : ∃ v, w2.cell? ⟨g, k * 3 + 2, none⟩ = some v := ⟨_, (HW1.out.cellAt (k * 3 + 2) (by omega)).trans (List.getElem?_eq_getElem (by omega))⟩
      have z2 := HW1.out.frozenAt (k * 3 + 2)
      clear hxl
      have HA0 := mkHid (HW1.out.stored (k * 3) (.int .i64 x.1))
      have HA1 := mkHid (HA0.out.1.stored (k * 3 + 1) (.int .i64 x.2.1))
      have HA2 := mkHid (HA1.out.1.stored (k * 3 + 2) (.bool x.2.2))
      go_wp2
      go_roundw
      case rel =>
        refine ⟨k + 1, _, by omega, by go_num, HA2.out.1, step_v HX.out HW1.out.1 HT.out, ?_⟩
        exact ((HB1.out.setCell (p := ⟨g, k * 3, none⟩) (Nat.le_of_eq HGG.out) _).setCell (p := ⟨g, k * 3 + 1, none⟩) (Nat.le_of_eq HGG.out) _).setCell (p := ⟨g, k * 3 + 2, none⟩) (Nat.le_of_eq HGG.out) _
      case measure => simp [intOf]; omega
    · have e : k = l.length := by omega
      subst e
      have hown := HW.out
      rw [flat_upto (E := eV) HW.out.1 HT.out] at hown
      have HW := mkHid hown
      clear hown HT
      go_wp2
      go_ret
      exact ⟨g, rfl, by rw [HGG.out]; exact HW.out, HB.out⟩
end Go.Proofs.Ytbfmljogfljhdaa
