/-
  CONTRACTS of toNode and toNodeS: the same tree in new memory; of eqNode and eqNodeS at the same trees.
-/
import Derived.Test.YtpikgigfeifliaaDoorSize
import Derived.Test.YtpikgigfeifliaaDoorOwn
namespace Go.Proofs.YtpikgigfeifliaaDoor
open Go.RowKit

def ToOk (t : T) : Prop := match t with
  | .node k s m kk => ∀ (a : Option Addr) (c : Nat) (w : World), bulk t ≤ 1048576 → Kids w 0 a kk →
    Calls Tryd.prog 31 #[.agg #[.int .i64 k, .string s, .int .i64 m, .slice a kk.length c]] w fun e w' =>
      (∃ a' c', e = .returned (.agg #[.int .i64 k, .string s, .int .i64 m, .slice a' kk.length c']) ∧ Kids0 w' w.heap.size a' kk ∧ kk.length ≤ c' ∧ c' ≤ maxLen) ∧ Below w.heap.size w w'

theorem Tryd.info65 : (Tryd.prog.info? 65).map (fun i => (i.zero, i.size, i.bytes)) = some (some (.agg #[.int .i64 0, .string ByteArray.empty, .int .i64 0, .slice none 0 0]), 4, 56) := by kernel_rfl
theorem owns_below {w w' : World} {base e size n : Nat} {v : Value} {xs : List Value} (h : w.ownsRow base e size v n xs) (hb : Below w.heap.size w w') : w'.ownsRow base e size v n xs :=
  h.kept (row := none) ⟨hb.os, hb.tape, hb.output, hb.size, fun k hk _ => hb.block k hk⟩ (by cases v.ownBlock <;> simp)
theorem bulk_mem {ks : List T} {t : T} (h : t ∈ ks) : bulk t ≤ bulks ks := by
  induction ks with
  | nil => cases h
  | cons x r ih =>
    simp only [bulks]
    rcases List.mem_cons.1 h with rfl | h
    · omega
    · have := ih h; omega
theorem bulk_node {k m : Int} {s : ByteArray} {kk : List T} : bulk (.node k s m kk) = s.size + kk.length + bulks kk := by simp only [bulk]

/-- Four cells are written at block g; what lies ahead of them there, and in later blocks, stays. -/
theorem four_stay {w : World} {g o : Nat} {v0 v1 v2 v3 : Value} {b j : Nat} (h : b ≠ g ∨ j < o ∨ o + 4 ≤ j) :
    ((((w.setCell ⟨g, o, none⟩ v0).setCell ⟨g, o + 1, none⟩ v1).setCell ⟨g, o + 2, none⟩ v2).setCell ⟨g, o + 3, none⟩ v3).cell? ⟨b, j, none⟩ = w.cell? ⟨b, j, none⟩ := by
  rw [World.cell?_setCell_other, World.cell?_setCell_other, World.cell?_setCell_other, World.cell?_setCell_other] <;> (intro e; injection e with e1 e2; omega)

theorem four_both {w : World} {g o : Nat} {v0 v1 v2 v3 : Value} {b j : Nat} (h : b ≠ g) :
    ((((w.setCell ⟨g, o, none⟩ v0).setCell ⟨g, o + 1, none⟩ v1).setCell ⟨g, o + 2, none⟩ v2).setCell ⟨g, o + 3, none⟩ v3).cell? ⟨b, j, none⟩ = w.cell? ⟨b, j, none⟩ ∧
    ((((w.setCell ⟨g, o, none⟩ v0).setCell ⟨g, o + 1, none⟩ v1).setCell ⟨g, o + 2, none⟩ v2).setCell ⟨g, o + 3, none⟩ v3).frozen? ⟨b, j, none⟩ = w.frozen? ⟨b, j, none⟩ :=
  ⟨four_stay (.inl h), by simp⟩
set_option maxHeartbeats 800000 in
theorem toNodeS_of (kk : List T) (IH : ∀ t ∈ kk, ToOk t) (b off c : Nat) (w : World) (hn : kk.length + bulks kk ≤ 1048576) (hl : LiesL w 0 kk b off) :
    Calls Tryd.prog 37 #[.slice (some ⟨b, off, none⟩) kk.length c] w fun e w' =>
      (∃ a' c', e = .returned (.slice a' kk.length c') ∧ Kids0 w' w.heap.size a' kk ∧ kk.length ≤ c' ∧ c' ≤ maxLen) ∧ Below w.heap.size w w' := by
  obtain ⟨i0, hi, hz⟩ := Option.map_eq_some_iff.1 Tryd.info65
  simp only [Prod.mk.injEq] at hz
  obtain ⟨hz0, hz1, hz2⟩ := hz
  obtain ⟨w1, hmk, hown0, hg0⟩ := run_make_full (P := Tryd.prog) w w.heap.size 63 65 i0 _ 4 Tryd.underlying63 hi hz0 hz1 .i64 .i64 kk.length (by rw [hz2]; omega) (by unfold maxLen; omega) (Nat.le_refl _)
  have hsz : kk.length ≤ 1048576 := by omega
  have HN := mkHid hn
  have HL := mkHid hl
  have HI := mkHid IH
  have HO := mkHid hown0
  have HG := mkHid (Below.grown (Below.refl w.heap.size w) hg0 (Nat.le_refl _) (fun k hk => by cases hk))
  clear hl hown0 hg0 hi hz0 hz1 hz2 IH hn
  go_enter Tryd.func37, Tryd.ntmps37
  go_wp2
  go_loopw [4] (fun i w' => ∃ (k : Nat) (xs : List Value), k ≤ kk.length ∧ i = .int .i64 k ∧ w'.ownsRow w.heap.size 65 4 (.slice (some ⟨w.heap.size, 0, none⟩) kk.length kk.length) kk.length xs ∧
    (∀ j t, j < k → kk[j]? = some t → Lies0 w' (w.heap.size + 1) t w.heap.size (j * 4)) ∧ Below w.heap.size w w') (fun i _ => kk.length - (intOf i).toNat)
  case atStart => exact ⟨0, _, Nat.zero_le _, rfl, HO.out, fun j t hj => by omega, HG.out⟩
  case round =>
    obtain ⟨k, xs, hk, rfl, hown, hdone, hbel⟩ := hrel
    have HW := mkHid hown
    have HD := mkHid hdone
    have HB := mkHid hbel
    clear hown hdone hbel HO HG hmk
    by_cases hlt : k < kk.length
    · obtain ⟨x, hx⟩ : ∃ x, kk[k]? = some x := ⟨_, List.getElem?_eq_getElem hlt⟩
      have HX := mkHid hx
      obtain ⟨xk, xs', xm, xkk⟩ := x
      obtain ⟨xa, xc, hc0, hc1, hc2, hc3, hs, hkn, hkids⟩ := (HL.out.below (Nat.zero_le _) HB.out).at hx
      have HC := mkHid (HI.out _ (List.mem_of_getElem? hx) xa xc wr (by have := bulk_mem (List.mem_of_getElem? hx); have := HN.out; omega) hkids)
      have HS := mkHid (And.intro hs hkn)
      have hgr : w.heap.size < wr.heap.size := by
        obtain ⟨_, h | ⟨g, cap, cur, h, _, hg, _⟩⟩ := HW.out
        · cases h.1
        · simp at h
          obtain ⟨⟨rfl⟩, _⟩ := h
          exact (Array.getElem?_eq_some_iff.1 hg).1
      have HGR := mkHid hgr
      clear hx hs hkn hkids hgr
      go_wp2_with fail
      refine HC.out.mono ?_
      rintro e w2 ⟨⟨a', c', rfl, hk', hcap⟩, hb2⟩
      have HCP := mkHid hcap
      clear hcap
      have HK := mkHid hk'
      have HW2 := mkHid (owns_below HW.out hb2)
      have HD2 : Hid (∀ j t, j < k → kk[j]? = some t → Lies0 w2 (w.heap.size + 1) t w.heap.size (j * 4)) := mkHid fun j t hj ht => Lies0.stay (fun b o _ h => below_both hb2 b o h) t _ _ (fun o _ _ => hb2.cell (p := ⟨_, o, none⟩) HGR.out) (HD.out j t hj ht)
      have HB2 := mkHid (HB.out.trans (hb2.mono HB.out.size))
      clear hb2 hc0 hc1 hc2 hc3 hk' HC HD
      have hxl := HW2.out.1
      obtain ⟨v0, c0⟩ : ∃ v, w2.cell? ⟨w.heap.size, k * 4, none⟩ = some v := ⟨_, (HW2.out.cellAt (k * 4) (by omega)).trans (List.getElem?_eq_getElem (by omega))⟩
      obtain ⟨v1, c1⟩ : ∃ v, w2.cell? ⟨w.heap.size, k * 4 + 1, none⟩ = some v := ⟨_, (HW2.out.cellAt (k * 4 + 1) (by omega)).trans (List.getElem?_eq_getElem (by omega))⟩
      obtain ⟨v2, c2⟩ : ∃ v, w2.cell? ⟨w.heap.size, k * 4 + 1 + 1, none⟩ = some v := ⟨_, (HW2.out.cellAt (k * 4 + 1 + 1) (by omega)).trans (List.getElem?_eq_getElem (by omega))⟩
      obtain ⟨v3, c3⟩ : ∃ v, w2.cell? ⟨w.heap.size, k * 4 + 1 + 1 + 1, none⟩ = some v := ⟨_, (HW2.out.cellAt (k * 4 + 1 + 1 + 1) (by omega)).trans (List.getElem?_eq_getElem (by omega))⟩
      clear hxl
      have f0 := HW2.out.frozenAt (k * 4)
      have f1 := HW2.out.frozenAt (k * 4 + 1)
      have f2 := HW2.out.frozenAt (k * 4 + 1 + 1)
      have f3 := HW2.out.frozenAt (k * 4 + 1 + 1 + 1)
      go_wp2
      go_roundw
      case rel =>
        have O1 := (((((HW2.out.stored (k * 4) (.int .i64 xk)).1).stored (k * 4 + 1) (.string xs')).1.stored (k * 4 + 2) (.int .i64 xm)).1.stored (k * 4 + 3) (.slice a' xkk.length c')).1
        refine ⟨k + 1, _, by omega, by go_num, O1, fun j t hj ht => ?_, (((HB2.out.setCell (p := ⟨w.heap.size, k * 4, none⟩) (Nat.le_refl _) _).setCell (p := ⟨w.heap.size, k * 4 + 1, none⟩) (Nat.le_refl _) _).setCell (p := ⟨w.heap.size, k * 4 + 2, none⟩) (Nat.le_refl _) _).setCell (p := ⟨w.heap.size, k * 4 + 3, none⟩) (Nat.le_refl _) _⟩
        have hlen := HW2.out.1
        rcases (by omega : j < k ∨ j = k) with hjk | rfl
        · exact Lies0.stay (fun b o hb _ => four_both (by omega)) t _ _ (fun o _ _ => four_stay (.inr (.inl (by omega)))) (HD2.out j t hjk ht)
        · have e := HX.out.symm.trans ht
          simp only [Option.some.injEq] at e
          subst e
          unfold Lies0
          refine ⟨(O1.cellAt (j * 4) (by omega)).trans ?_, (O1.cellAt (j * 4 + 1) (by omega)).trans ?_, (O1.cellAt (j * 4 + 2) (by omega)).trans ?_, HS.out.1, HS.out.2, a', c', (O1.cellAt (j * 4 + 3) (by omega)).trans ?_, HCP.out.1, HCP.out.2, ?_⟩
          · simp [List.getElem?_set]; omega
          · simp [List.getElem?_set]; omega
          · simp [List.getElem?_set]; omega
          · simp [List.getElem?_set]; omega
          · exact ((HK.out.lower (show w.heap.size + 1 ≤ wr.heap.size from HGR.out)).stay (fun b o hb _ => four_both (by omega)))
      case measure => simp [intOf]; omega
    · go_wp2
      go_ret
      have e : k = kk.length := by omega
      subst e
      refine ⟨⟨_, _, rfl, .inr ⟨_, rfl, Nat.le_refl _, HW.out.frozenAt, Lies0L.of fun i t ht => ?_⟩, Nat.le_refl _, by unfold maxLen; omega⟩, HB.out⟩
      rw [Nat.zero_add]
      exact Lies0.lower (Nat.le_succ _) _ _ _ (HD.out i t (List.getElem?_eq_some_iff.1 ht).1 ht)
end Go.Proofs.YtpikgigfeifliaaDoor
