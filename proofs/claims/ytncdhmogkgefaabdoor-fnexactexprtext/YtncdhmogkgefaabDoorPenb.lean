/-
  CONTRACTS of Len and String of a printer's builder.
-/
import Derived.Test.YtncdhmogkgefaabDoorPen
import Derived.Test.YtncdhmogkgefaabDoorTree
namespace Go.Proofs.YtncdhmogkgefaabDoor
open Go.RowKit

theorem Tryd.cells5 : Tryd.prog.cellsOf 5 = 1 := by kernel_rfl

set_option maxHeartbeats 1000000 in
theorem len_any (B b : Nat) (bs : List Value) (w : World) (h : IsPr B b bs w) :
    Calls Tryd.prog 17 #[.pointer (some ⟨b, 0, none⟩)] w fun e w' => e = .returned (.int .i64 bs.length) ∧ w = w' := by
  obtain ⟨p, hAt⟩ : ∃ p, PrAt B b p bs w := h.elim (fun h => ⟨_, h⟩) (fun h => ⟨_, h⟩)
  obtain ⟨hB, v, hbk, hown, hne⟩ := hAt
  have c1 : w.cell? ⟨b, 1, none⟩ = some v := by rw [Lib.cell_of_heap hbk]; rfl
  rcases hown.2 with ⟨rfl, h0⟩ | ⟨g, cap, cur, fz, rfl, _⟩
  · rw [h0]
    clear hown hbk hne
    go_enter Tryd.func17, Tryd.ntmps17
    go_wp2
    go_ret
    exact ⟨rfl, rfl⟩
  · clear hown hbk hne
    go_enter Tryd.func17, Tryd.ntmps17
    go_wp2
    go_ret
    exact ⟨rfl, rfl⟩

set_option maxHeartbeats 2000000 in
set_option maxRecDepth 100000 in
theorem string_any (B b : Nat) (l : List UInt8) (w : World) (h : IsPr B b (Lib.byteCells l) w) (h0 : l ≠ []) :
    Calls Tryd.prog 18 #[.pointer (some ⟨b, 0, none⟩)] w fun e w' => e = .returned (.string ⟨l.toArray⟩) ∧ Below B w w' := by
  obtain ⟨p, hAt⟩ : ∃ p, PrAt B b p (Lib.byteCells l) w := h.elim (fun h => ⟨_, h⟩) (fun h => ⟨_, h⟩)
  obtain ⟨hB, v, hbk, hown, hne⟩ := hAt
  have hl0 : l.length ≠ 0 := by simpa using h0
  rw [Lib.byteCells_length] at hown
  obtain ⟨g, cap, cur, fz, rfl, hbg, hg, hfz, hnc, hcm, hcs, htake⟩ : ∃ g cap cur fz, v = .slice (some ⟨g, 0, none⟩) l.length cap ∧ B ≤ g ∧ w.heap[g]? = some (.cells cur 5 fz) ∧ fz.2 ≤ l.length * 1 ∧ l.length ≤ cap ∧ cap ≤ maxLen ∧ cur.size = cap * 1 ∧ cur.toList.take (l.length * 1) = Lib.byteCells l := by
    rcases hown.2 with ⟨_, hz⟩ | ⟨g, cap, cur, fz, hv, r⟩
    · exact absurd hz hl0
    · exact ⟨g, cap, cur, fz, hv, r⟩
  have c1 : w.drew.cell? ⟨b, 1, none⟩ = some (.slice (some ⟨g, 0, none⟩) l.length cap) := by
    have : w.drew.heap[b]? = some (.cells #[p, .slice (some ⟨g, 0, none⟩) l.length cap, .int .i64 0] 41 (0, 0)) := hbk
    rw [Lib.cell_of_heap this]; rfl
  have hSD : (Builtin.unsafeSliceData_ #[37] 67 #[.slice (some ⟨g, 0, none⟩) l.length cap]).run Tryd.prog w.drew = .ok (.pointer (some ⟨g, 0, none⟩)) w.drew :=
    Lib.run_unsafeSliceData_row _ _ _ _ _ _ (by omega)
  have hUS : (Builtin.unsafeString_ #[67, 3] 9 #[.pointer (some ⟨g, 0, none⟩), .int .i64 l.length]).run Tryd.prog w.drew = .ok (.string ⟨l.toArray⟩) (w.drew.freeze ⟨g, 0, none⟩ l.length) := by
    refine Lib.run_unsafeString_row w.drew 67 3 9 5 Tryd.underlying67 Tryd.cells5 g cur.size (by have hg' : w.drew.heap[g]? = some (.cells cur 5 fz) := hg; simp [World.shape?, hg']) l h0 (by omega) (by unfold maxLen at hcm; omega) ?_
    intro j x hx
    have := hown.cells (g := g) rfl j (.int .u8 x.toNat) (by simp [Lib.byteCells, hx])
    exact this
  have mixed : Tryd.prog.follows Departure.mixedOrders = true := by kernel_rfl
  go_enter Tryd.func18, Tryd.ntmps18
  go_wp2
  go_region_o
  all_goals (go_wp2; go_ret; exact ⟨rfl, Lib.below_freeze (Below.drew (Below.refl B w)) (p := ⟨g, 0, none⟩) hbg _⟩)

/-- The texts that put is handed, in a row. -/
def Texts (w : World) (b : Nat) (ts : List ByteArray) : Prop := (∀ (i : Nat) (x : ByteArray), ts[i]? = some x → w.cell? ⟨b, i, none⟩ = some (.string x))
def cat (ts : List ByteArray) : List UInt8 := ts.flatMap fun t => t.data.toList

theorem strCells_bytes (s : ByteArray) : Lib.strCells s = Lib.byteCells s.data.toList := by
  simp [Lib.strCells, Lib.byteCells]
theorem byteCells_append (a b : List UInt8) : Lib.byteCells (a ++ b) = Lib.byteCells a ++ Lib.byteCells b := by simp [Lib.byteCells]
theorem cat_take {ts : List ByteArray} {i : Nat} {x : ByteArray} (h : ts[i]? = some x) : cat (ts.take (i + 1)) = cat (ts.take i) ++ x.data.toList := by
  unfold cat
  rw [List.take_add_one, h]
  simp
theorem cat_take_le (ts : List ByteArray) (i : Nat) : (cat (ts.take i)).length ≤ (cat ts).length := by
  have : cat ts = cat (ts.take i) ++ cat (ts.drop i) := by
    unfold cat
    rw [← List.flatMap_append, List.take_append_drop]
  rw [this, List.length_append]
  omega

set_option maxHeartbeats 1600000 in
theorem put_any (B b : Nat) (l : List UInt8) (ts : List ByteArray) (tb : Nat) (w : World) (h : IsPr B b (Lib.byteCells l) w) (hlen : l.length + (cat ts).length ≤ 140737488355328) (hn : ts.length ≤ 1000) (hBw : B ≤ w.heap.size) (ht : ∃ cs, w.heap[tb]? = some (.cells cs 9 (0, 0)) ∧ ∀ (i : Nat) (x : ByteArray), ts[i]? = some x → cs[i]? = some (.string x)) :
    Calls Tryd.prog 28 #[.pointer (some ⟨b, 0, none⟩), .slice (some ⟨tb, 0, none⟩) ts.length ts.length] w fun e w' => e = .returned (.tuple #[]) ∧ (IsPr B b (Lib.byteCells (l ++ cat ts)) w' ∧ Below B w w' ∧ Lib.OthersKept 5 (some b) w w') := by
  have hnb : tb ≠ b := by
    rintro rfl
    obtain ⟨cs, hcs, _⟩ := ht
    rcases h with ⟨_, v, hv, _⟩ | ⟨_, v, hv, _⟩
    · rw [hcs] at hv; simp at hv
    · rw [hcs] at hv; simp at hv
  have H := mkHid h
  have HT := mkHid ht
  have HL := mkHid hlen
  clear h ht hlen
  go_enter Tryd.func28, Tryd.ntmps28
  go_wp2
  go_loopw [8] (fun i w' => ∃ (j : Nat), j ≤ ts.length ∧ i = .int .i64 j ∧ IsPr B b (Lib.byteCells (l ++ cat (ts.take j))) w' ∧ Below B w w' ∧ Lib.OthersKept 5 (some b) w w') (fun i _ => ts.length - (intOf i).toNat)
  case atStart => exact ⟨0, Nat.zero_le _, rfl, by simpa [cat] using H.out, Below.refl _ _, Lib.OthersKept.refl _ _ _⟩
  case round =>
    obtain ⟨j, hj, rfl, h1, h2, h3⟩ := hrel
    have H1 := mkHid h1
    have H2 := mkHid h2
    have H3 := mkHid h3
    clear h1 h2 h3
    by_cases hlt : j < ts.length
    · obtain ⟨x, hx⟩ : ∃ x, ts[j]? = some x := ⟨_, List.getElem?_eq_getElem hlt⟩
      have hcell : wr.cell? ⟨tb, j, none⟩ = some (.string x) := by
        obtain ⟨cs, hcs, hall⟩ := HT.out
        have hk := H3.out tb _ hcs (by simpa using hnb) (by simp)
        simp [World.cell?, hk, hall j x hx]
      have HX := mkHid (cat_take hx)
      have hsz := H2.out.size
      have HW := mkHid (writeString_any B b _ x wr H1.out (by
        have h4 := HX.out
        have h5 := cat_take_le ts (j + 1)
        have h6 := HL.out
        have h7 : x.data.toList.length = x.size := (Lib.size_eq x).symm
        rw [h4, List.length_append] at h5
        rw [Lib.byteCells_length, List.length_append]
        omega) (by omega))
      clear hx
      go_wp2_with fail
      refine HW.out.mono ?_
      rintro e w1 ⟨rfl, h1, h2, h3⟩
      have K1 : Hid (IsPr B b (Lib.byteCells (l ++ cat (ts.take (j + 1)))) w1) := mkHid (by
        rw [HX.out, ← List.append_assoc, byteCells_append, ← strCells_bytes]
        exact .inr h1)
      have K2 := mkHid (H2.out.trans h2)
      have K3 := mkHid (H3.out.trans h3)
      clear h1 h2 h3
      go_wp2
      go_roundw
      case rel => exact ⟨j + 1, by omega, by go_num, K1.out, K2.out, K3.out⟩
      case measure => simp [intOf]; omega
    · have e : ts.take j = ts := List.take_of_length_le (by omega)
      rw [e] at H1
      go_wp2
      go_end0
      exact ⟨rfl, H1.out, H2.out, H3.out⟩
end Go.Proofs.YtncdhmogkgefaabDoor
