/-
  THE PRINTER IN MEMORY: a strings.Builder that is the first field of a struct; contracts of copyCheck and WriteString there.
  CONTRACTS of Len and String of a printer's builder.
-/
import Derived.Test.YthccohemcagkcaaGreatDoorRows
import Derived.WalkKit
import Derived.WalkSpells
import Derived.WalkLawsBesides
import Derived.Shelf.Strings.BuilderK
import Derived.Test.YthccohemcagkcaaGreatDoorHb
namespace Go.Proofs.YthccohemcagkcaaGreatDoor
open Go.RowKit

/-- The printer at block b: the pointer of its builder, its buffer, no blocks around. -/
def PrAt (dp : Int) (B b : Nat) (p : Value) (bs : List Value) (w : World) : Prop :=
  B ≤ b ∧ ∃ v, w.heap[b]? = some (.cells #[p, v, .int .i64 dp] 54 (0, 0)) ∧ w.ownsRowF B 5 1 v bs.length bs ∧ v.ownBlock ≠ some b
def IsPr (dp : Int) (B b : Nat) (bs : List Value) (w : World) : Prop := PrAt dp B b (.pointer none) bs w ∨ PrAt dp B b (.pointer (some ⟨b, 0, none⟩)) bs w

theorem PrAt.cell0 {dp : Int} {B b : Nat} {p : Value} {bs : List Value} {w : World} (h : PrAt dp B b p bs w) : w.cell? ⟨b, 0, none⟩ = some p := by
  obtain ⟨_, v, hb, _⟩ := h
  simp [World.cell?, hb]
theorem PrAt.shape {dp : Int} {B b : Nat} {p : Value} {bs : List Value} {w : World} (h : PrAt dp B b p bs w) : w.shape? b = some (54, 3) := by
  obtain ⟨_, v, hb, _⟩ := h
  simp [World.shape?, hb]
theorem PrAt.lt {dp : Int} {B b : Nat} {p : Value} {bs : List Value} {w : World} (h : PrAt dp B b p bs w) : b < w.heap.size := by
  obtain ⟨_, v, hb, _⟩ := h
  rcases Nat.lt_or_ge b w.heap.size with h' | h'
  · exact h'
  · simp [Array.getElem?_eq_none h'] at hb
theorem PrAt.used {dp : Int} {B b : Nat} {p : Value} {bs : List Value} {w : World} (h : PrAt dp B b p bs w) (q : Value) : PrAt dp B b q bs (w.setCell ⟨b, 0, none⟩ q) := by
  obtain ⟨hB, v, hb, hown, hne⟩ := h
  refine ⟨hB, v, ?_, ?_, hne⟩
  · simp [World.setCell, Array.getElem?_modify, hb]
  · refine hown.kept (row := some b) ⟨rfl, rfl, rfl, by simp [World.setCell], fun k _ hk => Below.heap_setCell _ _ _ _ (fun e => hk (by simp [e]))⟩ ?_
    exact Or.inr hne
theorem PrAt.frozen0 {dp : Int} {B b : Nat} {p : Value} {bs : List Value} {w : World} (h : PrAt dp B b p bs w) : w.frozen? ⟨b, 0, none⟩ = false := by
  obtain ⟨_, v, hb, _⟩ := h
  simp [World.frozen?, hb]
theorem PrAt.put {dp : Int} {B b : Nat} {p v v' : Value} {bs' : List Value} {w : World} (hB : B ≤ b) (hb : w.heap[b]? = some (.cells #[p, v, .int .i64 dp] 54 (0, 0))) (hown : w.ownsRowF B 5 1 v' bs'.length bs') :
    PrAt dp B b p bs' (w.setCell ⟨b, 1, none⟩ v') := by
  have hne := Lib.ownBlock_neF hown hb (by decide)
  refine ⟨hB, v', ?_, ?_, hne⟩
  · simp [World.setCell, Array.getElem?_modify, hb]
  · exact hown.kept (row := some b) ⟨rfl, rfl, rfl, by simp [World.setCell], fun k _ hk => Below.heap_setCell _ _ _ _ (fun e => hk (by simp [e]))⟩ (Or.inr hne)
theorem PrAt.alloc {dp : Int} {B b : Nat} {p : Value} {bs : List Value} {w : World} (h : PrAt dp B b p bs w) (o : Obj) : PrAt dp B b p bs (w.alloc o) := by
  have hlt := h.lt
  obtain ⟨hB, v, hb, hown, hne⟩ := h
  exact ⟨hB, v, (Lib.alloc_old w o b hlt).trans hb, hown.kept (World.grownBy_alloc w o none) (by cases hv : v.ownBlock <;> simp), hne⟩
theorem PrAt.below {dp : Int} {B b : Nat} {p : Value} {bs : List Value} {w w' : World} (h : PrAt dp B b p bs w) (hb' : Below w.heap.size w w') : PrAt dp B b p bs w' := by
  have hlt := h.lt
  obtain ⟨hB, v, hb, hown, hne⟩ := h
  exact ⟨hB, v, (hb'.block b hlt).trans hb, hown.kept (row := none) ⟨hb'.os, hb'.tape, hb'.output, hb'.size, fun k hk _ => hb'.block k hk⟩ (by cases v.ownBlock <;> simp), hne⟩
theorem IsPr.lt {dp : Int} {B b : Nat} {bs : List Value} {w : World} (h : IsPr dp B b bs w) : b < w.heap.size := h.elim PrAt.lt PrAt.lt
theorem IsPr.alloc {dp : Int} {B b : Nat} {bs : List Value} {w : World} (h : IsPr dp B b bs w) (o : Obj) : IsPr dp B b bs (w.alloc o) := h.elim (fun x => .inl (x.alloc o)) (fun x => .inr (x.alloc o))
theorem IsPr.below {dp : Int} {B b : Nat} {bs : List Value} {w w' : World} (h : IsPr dp B b bs w) (hb' : Below w.heap.size w w') : IsPr dp B b bs w' := h.elim (fun x => .inl (x.below hb')) (fun x => .inr (x.below hb'))

theorem Tryz.info52 : (Tryz.prog.info? 52).map (fun i => i.size) = some 2 := by kernel_rfl
theorem Tryz.lies52 : liesAt Tryz.prog Tryz.prog.depth 54 (3 / Tryz.prog.cellsOf 54) 0 52 1 = true := by kernel_rfl
theorem Tryz.info5 : (Tryz.prog.info? 5).map (fun i => (i.zero, i.size, i.bytes)) = some (some (.int .u8 0), 1, 1) := by kernel_rfl
theorem noEscape_run (x : Value) (w : World) : Sem.run Tryz.prog (callFunc 152 #[x]) w = Result.ok (.value x) w := by
  rw [run_callFunc_extern Tryz.func152 (by kernel_rfl) (by kernel_rfl) (by kernel_rfl) (e := Extern.AbiNoEscape.same) (by kernel_rfl), Lib.run_noEscape]
  rfl

set_option maxRecDepth 100000 in
set_option maxHeartbeats 1000000 in
theorem check_fresh (b : Nat) (w : World) (h0 : w.cell? ⟨b, 0, none⟩ = some (.pointer none)) (hsh : w.shape? b = some (54, 3)) (hfz : w.frozen? ⟨b, 0, none⟩ = false) :
    Calls Tryz.prog 142 #[.pointer (some ⟨b, 0, none⟩)] w fun e w' => e = .returned (.tuple #[]) ∧ w' = w.setCell ⟨b, 0, none⟩ (.pointer (some ⟨b, 0, none⟩)) := by
  obtain ⟨j, hj, hjs⟩ := Option.map_eq_some_iff.1 Tryz.info52
  have k1 := Lib.run_to_unsafe (P := Tryz.prog) (src := 50) (dst := 150) (w := w) ⟨b, 0, none⟩ Tryz.underlying50 Tryz.underlying150 hj (by rw [hjs]; decide) hsh (Nat.zero_lt_succ 2)
  have k2 := Lib.run_from_unsafe (P := Tryz.prog) (src := 150) (dst := 50) (w := w) ⟨b, 0, none⟩ Tryz.underlying150 Tryz.underlying50 hj hsh Tryz.lies52
  have k3 := noEscape_run (.pointer (some ⟨b, 0, none⟩)) w
  go_enter Tryz.func142, Tryz.ntmps142
  go_wp2
  go_end0
  exact ⟨rfl, rfl⟩
set_option maxRecDepth 100000 in
set_option maxHeartbeats 1000000 in
theorem check_used (b : Nat) (w : World) (h0 : w.cell? ⟨b, 0, none⟩ = some (.pointer (some ⟨b, 0, none⟩))) :
    Calls Tryz.prog 142 #[.pointer (some ⟨b, 0, none⟩)] w fun e w' => e = .returned (.tuple #[]) ∧ w' = w := by
  obtain ⟨j, hj, _⟩ := Option.map_eq_some_iff.1 Tryz.info52
  have k4 := Lib.run_neq_ptr_same (P := Tryz.prog) w ⟨b, 0, none⟩ Tryz.underlying50 hj
  go_enter Tryz.func142, Tryz.ntmps142
  go_wp2
  go_end0
  exact ⟨rfl, rfl⟩
/-- copyCheck at a printer, fresh or used. -/
theorem check_any (dp : Int) (B b : Nat) (bs : List Value) (w : World) (h : IsPr dp B b bs w) :
    Calls Tryz.prog 142 #[.pointer (some ⟨b, 0, none⟩)] w fun e w' => e = .returned (.tuple #[]) ∧ (PrAt dp B b (.pointer (some ⟨b, 0, none⟩)) bs w' ∧ Below B w w' ∧ Lib.OthersKept 5 (some b) w w') := by
  rcases h with h | h
  · refine (check_fresh b w h.cell0 h.shape h.frozen0).mono ?_
    rintro e w' ⟨rfl, rfl⟩
    exact ⟨rfl, h.used _, (Below.refl B w).setCell (p := ⟨b, 0, none⟩) h.1 _, (Lib.OthersKept.refl _ _ w).setCell ⟨b, 0, none⟩ rfl _⟩
  · refine (check_used b w h.cell0).mono ?_
    rintro e w' ⟨rfl, rfl⟩
    exact ⟨rfl, h, Below.refl B _, Lib.OthersKept.refl _ _ _⟩

set_option maxRecDepth 100000 in
set_option maxHeartbeats 2000000 in
theorem writeString_any (dp : Int) (B b : Nat) (bs : List Value) (s : ByteArray) (w : World) (h : IsPr dp B b bs w) (hlen : bs.length + s.size ≤ 140737488355328) (hBw : B ≤ w.heap.size) :
    Calls Tryz.prog 119 #[.pointer (some ⟨b, 0, none⟩), .string s] w fun e w' => e = .returned (.tuple #[.int .i64 s.size, .nilIface]) ∧ (PrAt dp B b (.pointer (some ⟨b, 0, none⟩)) (bs ++ Lib.strCells s) w' ∧ Below B w w' ∧ Lib.OthersKept 5 (some b) w w') := by
  obtain ⟨i0, hi, hz⟩ := Option.map_eq_some_iff.1 Tryz.info5
  simp only [Prod.mk.injEq] at hz
  obtain ⟨hz0, hz1, hz2⟩ := hz
  go_enter Tryz.func119, Tryz.ntmps119
  go_wp2_with (go_at_call 142; refine (check_any dp B b bs _ h).mono ?_)
  rintro e w1 ⟨rfl, h1, hb1, hk1⟩
  obtain ⟨hB, v, hbk, hown, hne⟩ := h1
  have c0 : w1.cell? ⟨b, 0, none⟩ = some (.pointer (some ⟨b, 0, none⟩)) := by rw [Lib.cell_of_heap hbk]; rfl
  have c1 : w1.cell? ⟨b, 1, none⟩ = some v := by rw [Lib.cell_of_heap hbk]; rfl
  go_wp2_with (at_builtin; refine Lib.wpList_append_own_stringF _ rfl _ _ 22 9 rfl B 5 i0 Tryz.underlying22 Tryz.underlying9 hi hz0 hz1 hz2 _ _ _ rfl hown s rfl ?c3 ?c4 ?c5 ?_)
  case c3 => unfold maxLen; omega
  case c4 => omega
  case c5 => have := hb1.size; omega
  intro v' w2 hown' hgrow _
  have hlt : b < w1.heap.size := by
    rcases Nat.lt_or_ge b w1.heap.size with h' | h'
    · exact h'
    · simp [Array.getElem?_eq_none h'] at hbk
  have hb2 : w2.heap[b]? = some (.cells #[.pointer (some ⟨b, 0, none⟩), v, .int .i64 dp] 54 (0, 0)) := by
    rw [hgrow.block b hlt (fun e => hne e.symm)]
    exact hbk
  have d1 : w2.cell? ⟨b, 1, none⟩ = some v := by rw [Lib.cell_of_heap hb2]; rfl
  have f1 : w2.frozen? ⟨b, 1, none⟩ = false := Lib.frozen_of_heap hb2 1
  obtain ⟨ao, n', cap, rfl⟩ : ∃ ao n' cap, v' = .slice ao n' cap := by
    rcases hown'.2 with ⟨hv, _⟩ | ⟨g, cap, cur, fz, hv, _⟩
    · exact ⟨_, _, _, hv⟩
    · exact ⟨_, _, _, hv⟩
  go_wp2
  go_ret2
  refine ⟨rfl, ?_, ?_, (hk1.grown hgrow (Lib.ownsRowF_kind hown)).setCell ⟨b, 1, none⟩ rfl _⟩
  · exact PrAt.put hB hb2 (bs' := bs ++ Lib.strCells s) (by simpa [Lib.strCells_length] using hown')
  · exact (hb1.grown hgrow (by have := hb1.size; omega) (fun k hk => (hown.lt k hk).1)).setCell (p := ⟨b, 1, none⟩) hB _
end Go.Proofs.YthccohemcagkcaaGreatDoor
namespace Go.Proofs.YthccohemcagkcaaGreatDoor
open Go.RowKit

theorem Tryz.cells5 : Tryz.prog.cellsOf 5 = 1 := by kernel_rfl

set_option maxHeartbeats 2000000 in
set_option maxRecDepth 100000 in
theorem string_any (dp : Int) (B b : Nat) (l : List UInt8) (w : World) (h : IsPr dp B b (Lib.byteCells l) w) (h0 : l ≠ []) :
    Calls Tryz.prog 34 #[.pointer (some ⟨b, 0, none⟩)] w fun e w' => e = .returned (.string ⟨l.toArray⟩) ∧ Below B w w' := by
  obtain ⟨p, hAt⟩ : ∃ p, PrAt dp B b p (Lib.byteCells l) w := h.elim (fun h => ⟨_, h⟩) (fun h => ⟨_, h⟩)
  obtain ⟨hB, v, hbk, hown, hne⟩ := hAt
  have hl0 : l.length ≠ 0 := by simpa using h0
  rw [Lib.byteCells_length] at hown
  obtain ⟨g, cap, cur, fz, rfl, hbg, hg, hfz, hnc, hcm, hcs, htake⟩ : ∃ g cap cur fz, v = .slice (some ⟨g, 0, none⟩) l.length cap ∧ B ≤ g ∧ w.heap[g]? = some (.cells cur 5 fz) ∧ fz.2 ≤ l.length * 1 ∧ l.length ≤ cap ∧ cap ≤ maxLen ∧ cur.size = cap * 1 ∧ cur.toList.take (l.length * 1) = Lib.byteCells l := by
    rcases hown.2 with ⟨_, hz⟩ | ⟨g, cap, cur, fz, hv, r⟩
    · exact absurd hz hl0
    · exact ⟨g, cap, cur, fz, hv, r⟩
  have c1 : w.drew.cell? ⟨b, 1, none⟩ = some (.slice (some ⟨g, 0, none⟩) l.length cap) := by
    have : w.drew.heap[b]? = some (.cells #[p, .slice (some ⟨g, 0, none⟩) l.length cap, .int .i64 dp] 54 (0, 0)) := hbk
    rw [Lib.cell_of_heap this]; rfl
  have hSD : (Builtin.unsafeSliceData_ #[22] 94 #[.slice (some ⟨g, 0, none⟩) l.length cap]).run Tryz.prog w.drew = .ok (.pointer (some ⟨g, 0, none⟩)) w.drew :=
    Lib.run_unsafeSliceData_row _ _ _ _ _ _ (by omega)
  have hUS : (Builtin.unsafeString_ #[94, 3] 9 #[.pointer (some ⟨g, 0, none⟩), .int .i64 l.length]).run Tryz.prog w.drew = .ok (.string ⟨l.toArray⟩) (w.drew.freeze ⟨g, 0, none⟩ l.length) := by
    refine Lib.run_unsafeString_row w.drew 94 3 9 5 Tryz.underlying94 Tryz.cells5 g cur.size (by have hg' : w.drew.heap[g]? = some (.cells cur 5 fz) := hg; simp [World.shape?, hg']) l h0 (by omega) (by unfold maxLen at hcm; omega) ?_
    intro j x hx
    have := hown.cells (g := g) rfl j (.int .u8 x.toNat) (by simp [Lib.byteCells, hx])
    exact this
  have mixed : Tryz.prog.follows Departure.mixedOrders = true := by kernel_rfl
  go_enter Tryz.func34, Tryz.ntmps34
  go_wp2
  go_region_o
  all_goals (go_wp2; go_ret; exact ⟨rfl, Lib.below_freeze (Below.drew (Below.refl B w)) (p := ⟨g, 0, none⟩) hbg _⟩)

def cat (ts : List ByteArray) : List UInt8 := ts.flatMap fun t => t.data.toList

theorem strCells_bytes (s : ByteArray) : Lib.strCells s = Lib.byteCells s.data.toList := by
  simp [Lib.strCells, Lib.byteCells]
theorem byteCells_append (a b : List UInt8) : Lib.byteCells (a ++ b) = Lib.byteCells a ++ Lib.byteCells b := by simp [Lib.byteCells]
theorem cat_take {ts : List ByteArray} {i : Nat} {x : ByteArray} (h : ts[i]? = some x) : cat (ts.take (i + 1)) = cat (ts.take i) ++ x.data.toList := by
  unfold cat
  rw [List.take_add_one, h]
  simp
theorem cat_take_le (ts : List ByteArray) (i : Nat) : (cat (ts.take i)).length ≤ (cat ts).length := by
  have : cat ts = cat (ts.take i) ++ cat (ts.drop i) := by
    unfold cat
    rw [← List.flatMap_append, List.take_append_drop]
  rw [this, List.length_append]
  omega

set_option maxRecDepth 100000 in
set_option maxHeartbeats 1600000 in
theorem put_any (dp : Int) (B b : Nat) (l : List UInt8) (ts : List ByteArray) (tb : Nat) (w : World) (h : IsPr dp B b (Lib.byteCells l) w) (hlen : l.length + (cat ts).length ≤ 140737488355328) (hn : ts.length ≤ 1000) (hBw : B ≤ w.heap.size) (ht : ∃ cs, w.heap[tb]? = some (.cells cs 9 (0, 0)) ∧ ∀ (i : Nat) (x : ByteArray), ts[i]? = some x → cs[i]? = some (.string x)) :
    Calls Tryz.prog 71 #[.pointer (some ⟨b, 0, none⟩), .slice (some ⟨tb, 0, none⟩) ts.length ts.length] w fun e w' => e = .returned (.tuple #[]) ∧ (IsPr dp B b (Lib.byteCells (l ++ cat ts)) w' ∧ Below B w w' ∧ Lib.OthersKept 5 (some b) w w') := by
  have hnb : tb ≠ b := by
    rintro rfl
    obtain ⟨cs, hcs, _⟩ := ht
    rcases h with ⟨_, v, hv, _⟩ | ⟨_, v, hv, _⟩
    · rw [hcs] at hv; simp at hv
    · rw [hcs] at hv; simp at hv
  have H := mkHid h
  have HT := mkHid ht
  have HL := mkHid hlen
  clear h ht hlen
  go_enter Tryz.func71, Tryz.ntmps71
  go_wp2
  go_loopw [8] (fun i w' => ∃ (j : Nat), j ≤ ts.length ∧ i = .int .i64 j ∧ IsPr dp B b (Lib.byteCells (l ++ cat (ts.take j))) w' ∧ Below B w w' ∧ Lib.OthersKept 5 (some b) w w') (fun i _ => ts.length - (intOf i).toNat)
  case atStart => exact ⟨0, Nat.zero_le _, rfl, by simpa [cat] using H.out, Below.refl _ _, Lib.OthersKept.refl _ _ _⟩
  case round =>
    obtain ⟨j, hj, rfl, h1, h2, h3⟩ := hrel
    have H1 := mkHid h1
    have H2 := mkHid h2
    have H3 := mkHid h3
    clear h1 h2 h3
    by_cases hlt : j < ts.length
    · obtain ⟨x, hx⟩ : ∃ x, ts[j]? = some x := ⟨_, List.getElem?_eq_getElem hlt⟩
      have hcell : wr.cell? ⟨tb, j, none⟩ = some (.string x) := by
        obtain ⟨cs, hcs, hall⟩ := HT.out
        have hk := H3.out tb _ hcs (by simpa using hnb) (by simp)
        simp [World.cell?, hk, hall j x hx]
      have HX := mkHid (cat_take hx)
      have hsz := H2.out.size
      have HW := mkHid (writeString_any dp B b _ x wr H1.out (by
        have h4 := HX.out
        have h5 := cat_take_le ts (j + 1)
        have h6 := HL.out
        have h7 : x.data.toList.length = x.size := (Lib.size_eq x).symm
        rw [h4, List.length_append] at h5
        rw [Lib.byteCells_length, List.length_append]
        omega) (by omega))
      clear hx
      go_wp2_with fail
      refine HW.out.mono ?_
      rintro e w1 ⟨rfl, h1, h2, h3⟩
      have K1 : Hid (IsPr dp B b (Lib.byteCells (l ++ cat (ts.take (j + 1)))) w1) := mkHid (by
        rw [HX.out, ← List.append_assoc, byteCells_append, ← strCells_bytes]
        exact .inr h1)
      have K2 := mkHid (H2.out.trans h2)
      have K3 := mkHid (H3.out.trans h3)
      clear h1 h2 h3
      go_wp2
      go_roundw
      case rel => exact ⟨j + 1, by omega, by go_num, K1.out, K2.out, K3.out⟩
      case measure => simp [intOf]; omega
    · have e : ts.take j = ts := List.take_of_length_le (by omega)
      rw [e] at H1
      go_wp2
      go_end0
      exact ⟨rfl, H1.out, H2.out, H3.out⟩
end Go.Proofs.YthccohemcagkcaaGreatDoor
