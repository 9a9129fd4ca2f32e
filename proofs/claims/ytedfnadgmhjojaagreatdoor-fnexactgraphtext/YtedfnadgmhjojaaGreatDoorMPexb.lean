/-
  THE PRINTER IN MEMORY: a strings.Builder that is the first field of a struct; contracts of copyCheck and WriteString there.
  CONTRACTS of Len and String of a printer's builder.
  CONTRACTS of the program's ties, of formOf at expressions and conditions, and of a printer's text of names and numbers.
  CONTRACTS of the printer's expr and part.
-/
import Derived.Test.YtedfnadgmhjojaaGreatDoorRows
import Derived.WalkKit
import Derived.WalkSpells
import Derived.WalkLawsBesides
import Derived.Shelf.Strings.BuilderK
import Derived.Test.YtedfnadgmhjojaaGreatDoorMSize
import Derived.Test.YtedfnadgmhjojaaGreatDoorMSex
namespace Go.Proofs.YtedfnadgmhjojaaGreatDoor
open Go.RowKit

/-- The printer at block b: the pointer of its builder, its buffer, no blocks around. -/
def PrAt (dp : Int) (B b : Nat) (p : Value) (bs : List Value) (w : World) : Prop :=
 B ≤ b ∧ ∃ v, w.heap[b]? = some (.cells #[p, v, .int .i64 dp] 85 (0, 0)) ∧ w.ownsRowF B 5 1 v bs.length bs ∧ v.ownBlock ≠ some b
def IsPr (dp : Int) (B b : Nat) (bs : List Value) (w : World) : Prop := PrAt dp B b (.pointer none) bs w ∨ PrAt dp B b (.pointer (some ⟨b, 0, none⟩)) bs w

theorem PrAt.cell0 {dp : Int} {B b : Nat} {p : Value} {bs : List Value} {w : World} (h : PrAt dp B b p bs w) : w.cell? ⟨b, 0, none⟩ = some p := by
 obtain ⟨_, v, hb, _⟩ := h
 simp [World.cell?, hb]
theorem PrAt.shape {dp : Int} {B b : Nat} {p : Value} {bs : List Value} {w : World} (h : PrAt dp B b p bs w) : w.shape? b = some (85, 3) := by
 obtain ⟨_, v, hb, _⟩ := h
 simp [World.shape?, hb]
theorem PrAt.lt {dp : Int} {B b : Nat} {p : Value} {bs : List Value} {w : World} (h : PrAt dp B b p bs w) : b < w.heap.size := by
 obtain ⟨_, v, hb, _⟩ := h
 rcases Nat.lt_or_ge b w.heap.size with h' | h'
 ·exact h'
 ·simp [Array.getElem?_eq_none h'] at hb
theorem PrAt.used {dp : Int} {B b : Nat} {p : Value} {bs : List Value} {w : World} (h : PrAt dp B b p bs w) (q : Value) : PrAt dp B b q bs (w.setCell ⟨b, 0, none⟩ q) := by
 obtain ⟨hB, v, hb, hown, hne⟩ := h
 refine ⟨hB, v, ?_, ?_, hne⟩
 ·simp [World.setCell, Array.getElem?_modify, hb]
 ·refine hown.kept (row := some b) ⟨rfl, rfl, rfl, by simp [World.setCell], fun k _ hk => Below.heap_setCell _ _ _ _ (fun e => hk (by simp [e]))⟩ ?_
  exact Or.inr hne
theorem PrAt.frozen0 {dp : Int} {B b : Nat} {p : Value} {bs : List Value} {w : World} (h : PrAt dp B b p bs w) : w.frozen? ⟨b, 0, none⟩ = false := by
 obtain ⟨_, v, hb, _⟩ := h
 simp [World.frozen?, hb]
theorem PrAt.put {dp : Int} {B b : Nat} {p v v' : Value} {bs' : List Value} {w : World} (hB : B ≤ b) (hb : w.heap[b]? = some (.cells #[p, v, .int .i64 dp] 85 (0, 0))) (hown : w.ownsRowF B 5 1 v' bs'.length bs') :
    PrAt dp B b p bs' (w.setCell ⟨b, 1, none⟩ v') := by
 have hne := Lib.ownBlock_neF hown hb (by decide)
 refine ⟨hB, v', ?_, ?_, hne⟩
 ·simp [World.setCell, Array.getElem?_modify, hb]
 ·exact hown.kept (row := some b) ⟨rfl, rfl, rfl, by simp [World.setCell], fun k _ hk => Below.heap_setCell _ _ _ _ (fun e => hk (by simp [e]))⟩ (Or.inr hne)
theorem PrAt.alloc {dp : Int} {B b : Nat} {p : Value} {bs : List Value} {w : World} (h : PrAt dp B b p bs w) (o : Obj) : PrAt dp B b p bs (w.alloc o) := by
 have hlt := h.lt
 obtain ⟨hB, v, hb, hown, hne⟩ := h
 exact ⟨hB, v, (Lib.alloc_old w o b hlt).trans hb, hown.kept (World.grownBy_alloc w o none) (by cases hv : v.ownBlock <;> simp), hne⟩
theorem PrAt.below {dp : Int} {B b : Nat} {p : Value} {bs : List Value} {w w' : World} (h : PrAt dp B b p bs w) (hb' : Below w.heap.size w w') : PrAt dp B b p bs w' := by
 have hlt := h.lt
 obtain ⟨hB, v, hb, hown, hne⟩ := h
 exact ⟨hB, v, (hb'.block b hlt).trans hb, hown.kept (row := none) ⟨hb'.os, hb'.tape, hb'.output, hb'.size, fun k hk _ => hb'.block k hk⟩ (by cases v.ownBlock <;> simp), hne⟩
theorem IsPr.lt {dp : Int} {B b : Nat} {bs : List Value} {w : World} (h : IsPr dp B b bs w) : b < w.heap.size := h.elim PrAt.lt PrAt.lt
theorem IsPr.alloc {dp : Int} {B b : Nat} {bs : List Value} {w : World} (h : IsPr dp B b bs w) (o : Obj) : IsPr dp B b bs (w.alloc o) := h.elim (fun x => .inl (x.alloc o)) (fun x => .inr (x.alloc o))
theorem IsPr.below {dp : Int} {B b : Nat} {bs : List Value} {w w' : World} (h : IsPr dp B b bs w) (hb' : Below w.heap.size w w') : IsPr dp B b bs w' := h.elim (fun x => .inl (x.below hb')) (fun x => .inr (x.below hb'))

theorem Tryz.info46 : (Tryz.prog.info? 46).map (fun i => i.size) = some 2 := by kernel_rfl
theorem Tryz.lies46 : liesAt Tryz.prog Tryz.prog.depth 85 (3 / Tryz.prog.cellsOf 85) 0 46 1 = true := by kernel_rfl
theorem Tryz.info5 : (Tryz.prog.info? 5).map (fun i => (i.zero, i.size, i.bytes)) = some (some (.int .u8 0), 1, 1) := by kernel_rfl
theorem noEscape_run (x : Value) (w : World) : Sem.run Tryz.prog (callFunc 46 #[x]) w = Result.ok (.value x) w := by
 rw [run_callFunc_extern Tryz.func46 (by kernel_rfl) (by kernel_rfl) (by kernel_rfl) (e := Extern.AbiNoEscape.same) (by kernel_rfl), Lib.run_noEscape]
 rfl

set_option maxRecDepth 100000 in
set_option maxHeartbeats 1000000 in
theorem check_fresh (b : Nat) (w : World) (h0 : w.cell? ⟨b, 0, none⟩ = some (.pointer none)) (hsh : w.shape? b = some (85, 3)) (hfz : w.frozen? ⟨b, 0, none⟩ = false) :
    Calls Tryz.prog 33 #[.pointer (some ⟨b, 0, none⟩)] w fun e w' => e = .returned (.tuple #[]) ∧ w' = w.setCell ⟨b, 0, none⟩ (.pointer (some ⟨b, 0, none⟩)) := by
 obtain ⟨j, hj, hjs⟩ := Option.map_eq_some_iff.1 Tryz.info46
 have k1 := Lib.run_to_unsafe (P := Tryz.prog) (src := 44) (dst := 79) (w := w) ⟨b, 0, none⟩ Tryz.underlying44 Tryz.underlying79 hj (by rw [hjs]; decide) hsh (Nat.zero_lt_succ 2)
 have k2 := Lib.run_from_unsafe (P := Tryz.prog) (src := 79) (dst := 44) (w := w) ⟨b, 0, none⟩ Tryz.underlying79 Tryz.underlying44 hj hsh Tryz.lies46
 have k3 := noEscape_run (.pointer (some ⟨b, 0, none⟩)) w
 go_enter Tryz.func33, Tryz.ntmps33
 go_wp2
 go_end0
 exact ⟨rfl, rfl⟩
set_option maxRecDepth 100000 in
set_option maxHeartbeats 1000000 in
theorem check_used (b : Nat) (w : World) (h0 : w.cell? ⟨b, 0, none⟩ = some (.pointer (some ⟨b, 0, none⟩))) :
    Calls Tryz.prog 33 #[.pointer (some ⟨b, 0, none⟩)] w fun e w' => e = .returned (.tuple #[]) ∧ w' = w := by
 obtain ⟨j, hj, _⟩ := Option.map_eq_some_iff.1 Tryz.info46
 have k4 := Lib.run_neq_ptr_same (P := Tryz.prog) w ⟨b, 0, none⟩ Tryz.underlying44 hj
 go_enter Tryz.func33, Tryz.ntmps33
 go_wp2
 go_end0
 exact ⟨rfl, rfl⟩
/-- copyCheck at a printer, fresh or used. -/
theorem check_any (dp : Int) (B b : Nat) (bs : List Value) (w : World) (h : IsPr dp B b bs w) :
    Calls Tryz.prog 33 #[.pointer (some ⟨b, 0, none⟩)] w fun e w' => e = .returned (.tuple #[]) ∧ (PrAt dp B b (.pointer (some ⟨b, 0, none⟩)) bs w' ∧ Below B w w' ∧ Lib.OthersKept 5 (some b) w w') := by
 rcases h with h | h
 ·refine (check_fresh b w h.cell0 h.shape h.frozen0).mono ?_
  rintro e w' ⟨rfl, rfl⟩
  exact ⟨rfl, h.used _, (Below.refl B w).setCell (p := ⟨b, 0, none⟩) h.1 _, (Lib.OthersKept.refl _ _ w).setCell ⟨b, 0, none⟩ rfl _⟩
 ·refine (check_used b w h.cell0).mono ?_
  rintro e w' ⟨rfl, rfl⟩
  exact ⟨rfl, h, Below.refl B _, Lib.OthersKept.refl _ _ _⟩

set_option maxRecDepth 100000 in
set_option maxHeartbeats 2000000 in
theorem writeString_any (dp : Int) (B b : Nat) (bs : List Value) (s : ByteArray) (w : World) (h : IsPr dp B b bs w) (hlen : bs.length + s.size ≤ 140737488355328) (hBw : B ≤ w.heap.size) :
    Calls Tryz.prog 16 #[.pointer (some ⟨b, 0, none⟩), .string s] w fun e w' => e = .returned (.tuple #[.int .i64 s.size, .nilIface]) ∧ (PrAt dp B b (.pointer (some ⟨b, 0, none⟩)) (bs ++ Lib.strCells s) w' ∧ Below B w w' ∧ Lib.OthersKept 5 (some b) w w') := by
 obtain ⟨i0, hi, hz⟩ := Option.map_eq_some_iff.1 Tryz.info5
 simp only [Prod.mk.injEq] at hz
 obtain ⟨hz0, hz1, hz2⟩ := hz
 go_enter Tryz.func16, Tryz.ntmps16
 go_wp2_with (go_at_call 33; refine (check_any dp B b bs _ h).mono ?_)
 rintro e w1 ⟨rfl, h1, hb1, hk1⟩
 obtain ⟨hB, v, hbk, hown, hne⟩ := h1
 have c0 : w1.cell? ⟨b, 0, none⟩ = some (.pointer (some ⟨b, 0, none⟩)) := by rw [Lib.cell_of_heap hbk]; rfl
 have c1 : w1.cell? ⟨b, 1, none⟩ = some v := by rw [Lib.cell_of_heap hbk]; rfl
 go_wp2_with (at_builtin; refine Lib.wpList_append_own_stringF _ rfl _ _ 35 9 rfl B 5 i0 Tryz.underlying35 Tryz.underlying9 hi hz0 hz1 hz2 _ _ _ rfl hown s rfl ?c3 ?c4 ?c5 ?_)
 case c3 => unfold maxLen; omega
 case c4 => omega
 case c5 => have := hb1.size; omega
 intro v' w2 hown' hgrow _
 have hlt : b < w1.heap.size := by
  rcases Nat.lt_or_ge b w1.heap.size with h' | h'
  ·exact h'
  ·simp [Array.getElem?_eq_none h'] at hbk
 have hb2 : w2.heap[b]? = some (.cells #[.pointer (some ⟨b, 0, none⟩), v, .int .i64 dp] 85 (0, 0)) := by
  rw [hgrow.block b hlt (fun e => hne e.symm)]
  exact hbk
 have d1 : w2.cell? ⟨b, 1, none⟩ = some v := by rw [Lib.cell_of_heap hb2]; rfl
 have f1 : w2.frozen? ⟨b, 1, none⟩ = false := Lib.frozen_of_heap hb2 1
 obtain ⟨ao, n', cap, rfl⟩ : ∃ ao n' cap, v' = .slice ao n' cap := by
  rcases hown'.2 with ⟨hv, _⟩ | ⟨g, cap, cur, fz, hv, _⟩
  ·exact ⟨_, _, _, hv⟩
  ·exact ⟨_, _, _, hv⟩
 go_wp2
 go_ret2
 refine ⟨rfl, ?_, ?_, (hk1.grown hgrow (Lib.ownsRowF_kind hown)).setCell ⟨b, 1, none⟩ rfl _⟩
 ·exact PrAt.put hB hb2 (bs' := bs ++ Lib.strCells s) (by simpa [Lib.strCells_length] using hown')
 ·exact (hb1.grown hgrow (by have := hb1.size; omega) (fun k hk => (hown.lt k hk).1)).setCell (p := ⟨b, 1, none⟩) hB _
end Go.Proofs.YtedfnadgmhjojaaGreatDoor
namespace Go.Proofs.YtedfnadgmhjojaaGreatDoor
open Go.RowKit

theorem Tryz.cells5 : Tryz.prog.cellsOf 5 = 1 := by kernel_rfl

set_option maxRecDepth 100000 in
set_option maxHeartbeats 1000000 in
theorem len_any (dp : Int) (B b : Nat) (bs : List Value) (w : World) (h : IsPr dp B b bs w) :
    Calls Tryz.prog 54 #[.pointer (some ⟨b, 0, none⟩)] w fun e w' => e = .returned (.int .i64 bs.length) ∧ w = w' := by
 obtain ⟨p, hAt⟩ : ∃ p, PrAt dp B b p bs w := h.elim (fun h => ⟨_, h⟩) (fun h => ⟨_, h⟩)
 obtain ⟨hB, v, hbk, hown, hne⟩ := hAt
 have c1 : w.cell? ⟨b, 1, none⟩ = some v := by rw [Lib.cell_of_heap hbk]; rfl
 rcases hown.2 with ⟨rfl, h0⟩ | ⟨g, cap, cur, fz, rfl, _⟩
 ·rw [h0]
  clear hown hbk hne
  go_enter Tryz.func54, Tryz.ntmps54
  go_wp2
  go_ret
  exact ⟨rfl, rfl⟩
 ·clear hown hbk hne
  go_enter Tryz.func54, Tryz.ntmps54
  go_wp2
  go_ret
  exact ⟨rfl, rfl⟩

set_option maxHeartbeats 2000000 in
set_option maxRecDepth 100000 in
theorem string_any (dp : Int) (B b : Nat) (l : List UInt8) (w : World) (h : IsPr dp B b (Lib.byteCells l) w) (h0 : l ≠ []) :
    Calls Tryz.prog 21 #[.pointer (some ⟨b, 0, none⟩)] w fun e w' => e = .returned (.string ⟨l.toArray⟩) ∧ Below B w w' := by
 obtain ⟨p, hAt⟩ : ∃ p, PrAt dp B b p (Lib.byteCells l) w := h.elim (fun h => ⟨_, h⟩) (fun h => ⟨_, h⟩)
 obtain ⟨hB, v, hbk, hown, hne⟩ := hAt
 have hl0 : l.length ≠ 0 := by simpa using h0
 rw [Lib.byteCells_length] at hown
 obtain ⟨g, cap, cur, fz, rfl, hbg, hg, hfz, hnc, hcm, hcs, htake⟩ : ∃ g cap cur fz, v = .slice (some ⟨g, 0, none⟩) l.length cap ∧ B ≤ g ∧ w.heap[g]? = some (.cells cur 5 fz) ∧ fz.2 ≤ l.length * 1 ∧ l.length ≤ cap ∧ cap ≤ maxLen ∧ cur.size = cap * 1 ∧ cur.toList.take (l.length * 1) = Lib.byteCells l := by
  rcases hown.2 with ⟨_, hz⟩ | ⟨g, cap, cur, fz, hv, r⟩
  ·exact absurd hz hl0
  ·exact ⟨g, cap, cur, fz, hv, r⟩
 have c1 : w.drew.cell? ⟨b, 1, none⟩ = some (.slice (some ⟨g, 0, none⟩) l.length cap) := by
  have : w.drew.heap[b]? = some (.cells #[p, .slice (some ⟨g, 0, none⟩) l.length cap, .int .i64 dp] 85 (0, 0)) := hbk
  rw [Lib.cell_of_heap this]; rfl
 have hSD : (Builtin.unsafeSliceData_ #[35] 70 #[.slice (some ⟨g, 0, none⟩) l.length cap]).run Tryz.prog w.drew = .ok (.pointer (some ⟨g, 0, none⟩)) w.drew :=
  Lib.run_unsafeSliceData_row _ _ _ _ _ _ (by omega)
 have hUS : (Builtin.unsafeString_ #[70, 3] 9 #[.pointer (some ⟨g, 0, none⟩), .int .i64 l.length]).run Tryz.prog w.drew = .ok (.string ⟨l.toArray⟩) (w.drew.freeze ⟨g, 0, none⟩ l.length) := by
  refine Lib.run_unsafeString_row w.drew 70 3 9 5 Tryz.underlying70 Tryz.cells5 g cur.size (by have hg' : w.drew.heap[g]? = some (.cells cur 5 fz) := hg; simp [World.shape?, hg']) l h0 (by omega) (by unfold maxLen at hcm; omega) ?_
  intro j x hx
  have := hown.cells (g := g) rfl j (.int .u8 x.toNat) (by simp [Lib.byteCells, hx])
  exact this
 have mixed : Tryz.prog.follows Departure.mixedOrders = true := by kernel_rfl
 go_enter Tryz.func21, Tryz.ntmps21
 go_wp2
 go_region_o
 all_goals (go_wp2; go_ret; exact ⟨rfl, Lib.below_freeze (Below.drew (Below.refl B w)) (p := ⟨g, 0, none⟩) hbg _⟩)

def cat (ts : List ByteArray) : List UInt8 := ts.flatMap fun t => t.data.toList

theorem strCells_bytes (s : ByteArray) : Lib.strCells s = Lib.byteCells s.data.toList := by
 simp [Lib.strCells, Lib.byteCells]
theorem byteCells_append (a b : List UInt8) : Lib.byteCells (a ++ b) = Lib.byteCells a ++ Lib.byteCells b := by simp [Lib.byteCells]
theorem cat_take {ts : List ByteArray} {i : Nat} {x : ByteArray} (h : ts[i]? = some x) : cat (ts.take (i + 1)) = cat (ts.take i) ++ x.data.toList := by
 unfold cat
 rw [List.take_add_one, h]
 simp
theorem cat_take_le (ts : List ByteArray) (i : Nat) : (cat (ts.take i)).length ≤ (cat ts).length := by
 have : cat ts = cat (ts.take i) ++ cat (ts.drop i) := by
  unfold cat
  rw [← List.flatMap_append, List.take_append_drop]
 rw [this, List.length_append]
 omega

set_option maxRecDepth 100000 in
set_option maxHeartbeats 1600000 in
theorem put_any (dp : Int) (B b : Nat) (l : List UInt8) (ts : List ByteArray) (tb : Nat) (w : World) (h : IsPr dp B b (Lib.byteCells l) w) (hlen : l.length + (cat ts).length ≤ 140737488355328) (hn : ts.length ≤ 1000) (hBw : B ≤ w.heap.size) (ht : ∃ cs, w.heap[tb]? = some (.cells cs 9 (0, 0)) ∧ ∀ (i : Nat) (x : ByteArray), ts[i]? = some x → cs[i]? = some (.string x)) :
    Calls Tryz.prog 75 #[.pointer (some ⟨b, 0, none⟩), .slice (some ⟨tb, 0, none⟩) ts.length ts.length] w fun e w' => e = .returned (.tuple #[]) ∧ (IsPr dp B b (Lib.byteCells (l ++ cat ts)) w' ∧ Below B w w' ∧ Lib.OthersKept 5 (some b) w w') := by
 have hnb : tb ≠ b := by
  rintro rfl
  obtain ⟨cs, hcs, _⟩ := ht
  rcases h with ⟨_, v, hv, _⟩ | ⟨_, v, hv, _⟩
  ·rw [hcs] at hv; simp at hv
  ·rw [hcs] at hv; simp at hv
 have H := mkHid h
 have HT := mkHid ht
 have HL := mkHid hlen
 clear h ht hlen
 go_enter Tryz.func75, Tryz.ntmps75
 go_wp2
 go_loopw [8] (fun i w' => ∃ (j : Nat), j ≤ ts.length ∧ i = .int .i64 j ∧ IsPr dp B b (Lib.byteCells (l ++ cat (ts.take j))) w' ∧ Below B w w' ∧ Lib.OthersKept 5 (some b) w w') (fun i _ => ts.length - (intOf i).toNat)
 case atStart => exact ⟨0, Nat.zero_le _, rfl, by simpa [cat] using H.out, Below.refl _ _, Lib.OthersKept.refl _ _ _⟩
 case round =>
  obtain ⟨j, hj, rfl, h1, h2, h3⟩ := hrel
  have H1 := mkHid h1
  have H2 := mkHid h2
  have H3 := mkHid h3
  clear h1 h2 h3
  by_cases hlt : j < ts.length
  ·obtain ⟨x, hx⟩ : ∃ x, ts[j]? = some x := ⟨_, List.getElem?_eq_getElem hlt⟩
   have hcell : wr.cell? ⟨tb, j, none⟩ = some (.string x) := by
    obtain ⟨cs, hcs, hall⟩ := HT.out
    have hk := H3.out tb _ hcs (by simpa using hnb) (by simp)
    simp [World.cell?, hk, hall j x hx]
   have HX := mkHid (cat_take hx)
   have hsz := H2.out.size
   have HW := mkHid (writeString_any dp B b _ x wr H1.out (by
    have h4 := HX.out
    have h5 := cat_take_le ts (j + 1)
    have h6 := HL.out
    have h7 : x.data.toList.length = x.size := (Lib.size_eq x).symm
    rw [h4, List.length_append] at h5
    rw [Lib.byteCells_length, List.length_append]
    omega) (by omega))
   clear hx
   go_wp2_with fail
   refine HW.out.mono ?_
   rintro e w1 ⟨rfl, h1, h2, h3⟩
   have K1 : Hid (IsPr dp B b (Lib.byteCells (l ++ cat (ts.take (j + 1)))) w1) := mkHid (by
    rw [HX.out, ← List.append_assoc, byteCells_append, ← strCells_bytes]
    exact .inr h1)
   have K2 := mkHid (H2.out.trans h2)
   have K3 := mkHid (H3.out.trans h3)
   clear h1 h2 h3
   go_wp2
   go_roundw
   case rel => exact ⟨j + 1, by omega, by go_num, K1.out, K2.out, K3.out⟩
   case measure => simp [intOf]; omega
  ·have e : ts.take j = ts := List.take_of_length_le (by omega)
   rw [e] at H1
   go_wp2
   go_end0
   exact ⟨rfl, H1.out, H2.out, H3.out⟩
end Go.Proofs.YtedfnadgmhjojaaGreatDoor
namespace Go.Proofs.YtedfnadgmhjojaaGreatDoor
open Go.RowKit
open Pl

set_option maxRecDepth 100000 in
set_option maxHeartbeats 800000 in
theorem ties_any (k : Int) (w : World) : Calls Tryz.prog 77 #[.int .i64 k] w fun e w' => e = .returned (.int .i64 (tightI k - 1)) ∧ w = w' := by
 by_cases h6 : k = 6
 ·subst h6
  go_enter Tryz.func77, Tryz.ntmps77
  go_wp2
  go_ret
  exact ⟨rfl, rfl⟩
 by_cases h7 : k = 7
 ·subst h7
  go_enter Tryz.func77, Tryz.ntmps77
  go_wp2
  go_ret
  exact ⟨rfl, rfl⟩
 by_cases h8 : k = 8
 ·subst h8
  go_enter Tryz.func77, Tryz.ntmps77
  go_wp2
  go_ret
  exact ⟨rfl, rfl⟩
 rw [show tightI k - 1 = 2 by simp [tightI, h6, h7, h8]]
 go_enter Tryz.func77, Tryz.ntmps77
 go_wp2
 go_ret
 exact ⟨rfl, rfl⟩

/-- The form of an expression or condition, by its kind. -/
def formVal (k : Int) : Value :=
 if k = 6 then .agg #[.string ⟨#[43]⟩] else if k = 7 then .agg #[.string ⟨#[45]⟩] else if k = 8 then .agg #[.string ⟨#[42]⟩] else
 if 11 ≤ k ∧ k ≤ 16 then .agg #[.string (signI k)] else .agg #[]
set_option maxRecDepth 100000 in
set_option maxHeartbeats 1600000 in
theorem formOf_val (k : Int) (w : World) (h : 1 ≤ k ∧ k ≤ 8 ∨ 11 ≤ k ∧ k ≤ 16) : Calls Tryz.prog 73 #[.int .i64 k] w fun e w' => e = .returned (.iface (typI k) (formVal k)) ∧ w = w' := by
 rcases (by omega : k = 1 ∨ k = 2 ∨ k = 3 ∨ k = 4 ∨ k = 5 ∨ k = 6 ∨ k = 7 ∨ k = 8 ∨ k = 11 ∨ k = 12 ∨ k = 13 ∨ k = 14 ∨ k = 15 ∨ k = 16) with rfl | rfl | rfl | rfl | rfl | rfl | rfl | rfl | h'
 iterate 8 (focus (go_enter Tryz.func73, Tryz.ntmps73; go_wp2; go_ret; exact ⟨rfl, rfl⟩))
 rcases h' with rfl | rfl | rfl | rfl | rfl | rfl
 ·go_enter Tryz.func73, Tryz.ntmps73
  go_wp2_with fail
  refine (condSign_any 11 _).mono ?_
  rintro e w1 ⟨rfl, rfl⟩
  rw [show signI 11 = ⟨#[60]⟩ from rfl]
  go_wp2
  go_ret
  exact ⟨rfl, rfl⟩
 ·go_enter Tryz.func73, Tryz.ntmps73
  go_wp2_with fail
  refine (condSign_any 12 _).mono ?_
  rintro e w1 ⟨rfl, rfl⟩
  rw [show signI 12 = ⟨#[60, 61]⟩ from rfl]
  go_wp2
  go_ret
  exact ⟨rfl, rfl⟩
 ·go_enter Tryz.func73, Tryz.ntmps73
  go_wp2_with fail
  refine (condSign_any 13 _).mono ?_
  rintro e w1 ⟨rfl, rfl⟩
  rw [show signI 13 = ⟨#[62]⟩ from rfl]
  go_wp2
  go_ret
  exact ⟨rfl, rfl⟩
 ·go_enter Tryz.func73, Tryz.ntmps73
  go_wp2_with fail
  refine (condSign_any 14 _).mono ?_
  rintro e w1 ⟨rfl, rfl⟩
  rw [show signI 14 = ⟨#[62, 61]⟩ from rfl]
  go_wp2
  go_ret
  exact ⟨rfl, rfl⟩
 ·go_enter Tryz.func73, Tryz.ntmps73
  go_wp2_with fail
  refine (condSign_any 15 _).mono ?_
  rintro e w1 ⟨rfl, rfl⟩
  rw [show signI 15 = ⟨#[61, 61]⟩ from rfl]
  go_wp2
  go_ret
  exact ⟨rfl, rfl⟩
 ·go_enter Tryz.func73, Tryz.ntmps73
  go_wp2_with fail
  refine (condSign_any 16 _).mono ?_
  rintro e w1 ⟨rfl, rfl⟩
  rw [show signI 16 = ⟨#[33, 61]⟩ from rfl]
  go_wp2
  go_ret
  exact ⟨rfl, rfl⟩

/-- What stands around the printer: the tree's world, the table of powers of ten. -/
structure Around (W0 : World) (dp : Int) (B b : Nat) (l : List UInt8) (w : World) : Prop where
 pr : IsPr dp B b (Lib.byteCells l) w
 old : Below W0.heap.size W0 w
 lo : W0.heap.size ≤ B
 hi : B ≤ w.heap.size
 tab : Lib.TabIs Tryz.prog W0 "internal/strconv.uint64pow10" .u64 Lib.pow10Tab

def Wrote (dp : Int) (B b : Nat) (l : List UInt8) (w : World) (e : Ending) (w' : World) : Prop :=
 e = .returned (.tuple #[]) ∧ IsPr dp B b (Lib.byteCells l) w' ∧ Below B w w' ∧ Lib.OthersKept 5 (some b) w w'

theorem Around.step {W0 : World} {dp : Int} {B b : Nat} {l l' : List UInt8} {w w' : World} (h : Around W0 dp B b l w) (hp : IsPr dp B b (Lib.byteCells l') w') (hb : Below B w w') : Around W0 dp B b l' w' :=
 ⟨hp, h.old.trans (hb.mono h.lo), h.lo, Nat.le_trans h.hi hb.size, h.tab⟩
theorem Around.alloc {W0 : World} {dp : Int} {B b : Nat} {l : List UInt8} {w : World} (h : Around W0 dp B b l w) (o : Obj) : Around W0 dp B b l (w.alloc o) :=
 ⟨h.pr.alloc o, h.old.alloc (Nat.le_trans h.lo h.hi) o, h.lo, Nat.le_trans h.hi (by simp), h.tab⟩
end Go.Proofs.YtedfnadgmhjojaaGreatDoor
namespace Go.Proofs.YtedfnadgmhjojaaGreatDoor
open Go.RowKit
open Pl

def exT (t : T) : List UInt8 := (exS t).data.toList
def PEx (t : T) : Prop := match t with
 | .node k s m kk => ∀ (W0 : World) (dp : Int) (B b : Nat) (l : List UInt8) (a : Option Addr) (c : Nat) (w : World), Good t → cnt t ≤ 500 → Kids W0 0 a kk → Around W0 dp B b l w → l.length + (exS t).size ≤ 100000000000000 →
   Calls Tryz.prog 53 #[.pointer (some ⟨b, 0, none⟩), .agg #[.int .i64 k, .string s, .int .i64 m, .slice a kk.length c]] w (Wrote dp B b (l ++ exT t) w)
theorem World.heap_alloc_new (w : World) (cs : Array Value) (e : TypeId) : (w.alloc (.cells cs e)).heap[w.heap.size]? = some (.cells cs e (0, 0)) := by
 show (w.heap.push (.cells cs e (0, 0)))[w.heap.size]? = _
 simp
theorem ta56_56 (W : World) : (Instr.typeAssert (.iface 120 (.agg #[])) 114 120 true).run Tryz.prog W = .ok (.tuple #[(.agg #[]), .bool true]) W := by kernel_rfl
theorem ta58_56 (W : World) : (Instr.typeAssert (.iface 122 (.agg #[])) 114 120 true).run Tryz.prog W = .ok (.tuple #[.agg #[], .bool false]) W := by kernel_rfl
theorem ta58_58 (W : World) : (Instr.typeAssert (.iface 122 (.agg #[])) 114 122 true).run Tryz.prog W = .ok (.tuple #[(.agg #[]), .bool true]) W := by kernel_rfl
theorem ta59_56 (W : World) : (Instr.typeAssert (.iface 123 (.agg #[])) 114 120 true).run Tryz.prog W = .ok (.tuple #[.agg #[], .bool false]) W := by kernel_rfl
theorem ta59_58 (W : World) : (Instr.typeAssert (.iface 123 (.agg #[])) 114 122 true).run Tryz.prog W = .ok (.tuple #[.agg #[], .bool false]) W := by kernel_rfl
theorem ta59_59 (W : World) : (Instr.typeAssert (.iface 123 (.agg #[])) 114 123 true).run Tryz.prog W = .ok (.tuple #[(.agg #[]), .bool true]) W := by kernel_rfl
theorem ta60_56 (W : World) : (Instr.typeAssert (.iface 124 (.agg #[])) 114 120 true).run Tryz.prog W = .ok (.tuple #[.agg #[], .bool false]) W := by kernel_rfl
theorem ta60_58 (W : World) : (Instr.typeAssert (.iface 124 (.agg #[])) 114 122 true).run Tryz.prog W = .ok (.tuple #[.agg #[], .bool false]) W := by kernel_rfl
theorem ta60_59 (W : World) : (Instr.typeAssert (.iface 124 (.agg #[])) 114 123 true).run Tryz.prog W = .ok (.tuple #[.agg #[], .bool false]) W := by kernel_rfl
theorem ta60_60 (W : World) : (Instr.typeAssert (.iface 124 (.agg #[])) 114 124 true).run Tryz.prog W = .ok (.tuple #[(.agg #[]), .bool true]) W := by kernel_rfl
theorem ta61_56 (W : World) : (Instr.typeAssert (.iface 125 (.agg #[])) 114 120 true).run Tryz.prog W = .ok (.tuple #[.agg #[], .bool false]) W := by kernel_rfl
theorem ta61_58 (W : World) : (Instr.typeAssert (.iface 125 (.agg #[])) 114 122 true).run Tryz.prog W = .ok (.tuple #[.agg #[], .bool false]) W := by kernel_rfl
theorem ta61_59 (W : World) : (Instr.typeAssert (.iface 125 (.agg #[])) 114 123 true).run Tryz.prog W = .ok (.tuple #[.agg #[], .bool false]) W := by kernel_rfl
theorem ta61_60 (W : World) : (Instr.typeAssert (.iface 125 (.agg #[])) 114 124 true).run Tryz.prog W = .ok (.tuple #[.agg #[], .bool false]) W := by kernel_rfl
theorem ta61_61 (W : World) : (Instr.typeAssert (.iface 125 (.agg #[])) 114 125 true).run Tryz.prog W = .ok (.tuple #[(.agg #[]), .bool true]) W := by kernel_rfl
theorem ta64_56 (g : ByteArray) (W : World) : (Instr.typeAssert (.iface 128 (.agg #[.string g])) 114 120 true).run Tryz.prog W = .ok (.tuple #[.agg #[], .bool false]) W := by kernel_rfl
theorem ta64_58 (g : ByteArray) (W : World) : (Instr.typeAssert (.iface 128 (.agg #[.string g])) 114 122 true).run Tryz.prog W = .ok (.tuple #[.agg #[], .bool false]) W := by kernel_rfl
theorem ta64_59 (g : ByteArray) (W : World) : (Instr.typeAssert (.iface 128 (.agg #[.string g])) 114 123 true).run Tryz.prog W = .ok (.tuple #[.agg #[], .bool false]) W := by kernel_rfl
theorem ta64_60 (g : ByteArray) (W : World) : (Instr.typeAssert (.iface 128 (.agg #[.string g])) 114 124 true).run Tryz.prog W = .ok (.tuple #[.agg #[], .bool false]) W := by kernel_rfl
theorem ta64_61 (g : ByteArray) (W : World) : (Instr.typeAssert (.iface 128 (.agg #[.string g])) 114 125 true).run Tryz.prog W = .ok (.tuple #[.agg #[], .bool false]) W := by kernel_rfl
theorem ta64_64 (g : ByteArray) (W : World) : (Instr.typeAssert (.iface 128 (.agg #[.string g])) 114 128 true).run Tryz.prog W = .ok (.tuple #[(.agg #[.string g]), .bool true]) W := by kernel_rfl
theorem ta66_56 (g : ByteArray) (W : World) : (Instr.typeAssert (.iface 130 (.agg #[.string g])) 114 120 true).run Tryz.prog W = .ok (.tuple #[.agg #[], .bool false]) W := by kernel_rfl
theorem ta66_58 (g : ByteArray) (W : World) : (Instr.typeAssert (.iface 130 (.agg #[.string g])) 114 122 true).run Tryz.prog W = .ok (.tuple #[.agg #[], .bool false]) W := by kernel_rfl
theorem ta66_59 (g : ByteArray) (W : World) : (Instr.typeAssert (.iface 130 (.agg #[.string g])) 114 123 true).run Tryz.prog W = .ok (.tuple #[.agg #[], .bool false]) W := by kernel_rfl
theorem ta66_60 (g : ByteArray) (W : World) : (Instr.typeAssert (.iface 130 (.agg #[.string g])) 114 124 true).run Tryz.prog W = .ok (.tuple #[.agg #[], .bool false]) W := by kernel_rfl
theorem ta66_61 (g : ByteArray) (W : World) : (Instr.typeAssert (.iface 130 (.agg #[.string g])) 114 125 true).run Tryz.prog W = .ok (.tuple #[.agg #[], .bool false]) W := by kernel_rfl
theorem ta66_64 (g : ByteArray) (W : World) : (Instr.typeAssert (.iface 130 (.agg #[.string g])) 114 128 true).run Tryz.prog W = .ok (.tuple #[.agg #[.string ⟨#[]⟩], .bool false]) W := by kernel_rfl
theorem ta66_66 (g : ByteArray) (W : World) : (Instr.typeAssert (.iface 130 (.agg #[.string g])) 114 130 true).run Tryz.prog W = .ok (.tuple #[(.agg #[.string g]), .bool true]) W := by kernel_rfl
theorem put_new (W0 : World) (dp : Int) (B b : Nat) (l : List UInt8) (ts : List ByteArray) (cs : Array Value) (tb : Nat) (w : World) (htb : tb = w.heap.size) (h : Around W0 dp B b l w) (hlen : l.length + (cat ts).length ≤ 140737488355328) (hn : ts.length ≤ 1000) (hcs : cs = (ts.map Value.string).toArray) :
    Calls Tryz.prog 75 #[.pointer (some ⟨b, 0, none⟩), .slice (some ⟨tb, 0, none⟩) ts.length ts.length] (w.alloc (.cells cs 9)) fun e w' => Wrote dp B b (l ++ cat ts) w e w' := by
 subst htb
 have h1 := h.alloc (.cells cs 9)
 refine (put_any dp B b l ts w.heap.size _ h1.pr hlen hn h1.hi ⟨cs, World.heap_alloc_new w cs 9, fun i x hx => ?_⟩).mono ?_
 ·subst hcs
  simp [hx]
 ·rintro e w' ⟨he, hp, hb, hk⟩
  refine ⟨he, hp, ?_, ?_⟩
  ·exact ((Below.refl B w).alloc h.hi _).trans hb
  ·exact ((Lib.OthersKept.refl 5 (some b) w).alloc _).trans hk

set_option maxRecDepth 100000 in
set_option maxHeartbeats 1600000 in
theorem pEx_var (s : ByteArray) (m : Int) : PEx (.node 2 s m []) := by
 intro W0 dp B b l a c w hg hc hk har hl
 obtain ⟨hs, _⟩ := good_shape hg
 have hT : exT (.node 2 s m []) = cat [s] := by unfold exT; rw [exS0]; simp [lay, cat]
 rw [hT]
 have HF := mkHid (fun W => formOf_val 2 W (by omega))
 have t1 := ta58_56
 have t2 := ta58_58
 have A0 := har.alloc (.cells #[.int .i64 2, .string s, .int .i64 m, .slice a 0 c] 38)
 show Calls Tryz.prog 53 #[.pointer (some ⟨b, 0, none⟩), .agg #[.int .i64 2, .string s, .int .i64 m, .slice a 0 c]] w _
 go_enter Tryz.func53, Tryz.ntmps53
 go_wp2_with fail
 refine (HF.out _).mono ?_
 rintro e w1 ⟨rfl, rfl⟩
 rw [show typI 2 = 122 from rfl, show formVal 2 = .agg #[] from rfl]
 go_wp2_with fail
 refine (put_new W0 dp B b l [s] #[.string s] _ _ (by simp) (A0.alloc (.cells #[] 122)) (by rw [← hT]; unfold exT; rw [← Lib.size_eq]; omega) (by simp) rfl).mono ?_
 rintro e w2 ⟨rfl, hp, hb, hk2⟩
 have K1 := mkHid hp
 have K2 := mkHid ((((Below.refl B w).alloc har.hi _).alloc (Nat.le_trans har.hi (by simp)) _).trans hb)
 have K3 := mkHid ((((Lib.OthersKept.refl 5 (some b) w).alloc _).alloc _).trans hk2)
 clear hp hb hk2 A0
 go_wp2
 go_end0
 exact ⟨rfl, K1.out, K2.out, K3.out⟩

set_option maxRecDepth 100000 in
set_option maxHeartbeats 1600000 in
theorem pEx_len (s : ByteArray) (m : Int) : PEx (.node 4 s m []) := by
 intro W0 dp B b l a c w hg hc hk har hl
 have hT : exT (.node 4 s m []) = cat [⟨#[108, 101, 110, 40]⟩, s, ⟨#[41]⟩] := by unfold exT; rw [exS0]; simp [lay, cat]
 rw [hT]
 have HF := mkHid (fun W => formOf_val 4 W (by omega))
 have t56 := ta59_56
 have t58 := ta59_58
 have t59 := ta59_59
 have A0 := har.alloc (.cells #[.int .i64 4, .string s, .int .i64 m, .slice a 0 c] 38)
 show Calls Tryz.prog 53 #[.pointer (some ⟨b, 0, none⟩), .agg #[.int .i64 4, .string s, .int .i64 m, .slice a 0 c]] w _
 go_enter Tryz.func53, Tryz.ntmps53
 go_wp2_with fail
 refine (HF.out _).mono ?_
 rintro e w1 ⟨rfl, rfl⟩
 rw [show typI 4 = 123 from rfl, show formVal 4 = .agg #[] from rfl]
 go_wp2_with fail
 refine (put_new W0 dp B b l [⟨#[108, 101, 110, 40]⟩, s, ⟨#[41]⟩] #[.string ⟨#[108, 101, 110, 40]⟩, .string s, .string ⟨#[41]⟩] _ _ (by simp) (A0.alloc (.cells #[] 123)) (by rw [← hT]; unfold exT; rw [← Lib.size_eq]; omega) (by simp) rfl).mono ?_
 rintro e w2 ⟨rfl, hp, hb, hk2⟩
 have K1 := mkHid hp
 have K2 := mkHid ((((Below.refl B w).alloc har.hi _).alloc (Nat.le_trans har.hi (by simp)) _).trans hb)
 have K3 := mkHid ((((Lib.OthersKept.refl 5 (some b) w).alloc _).alloc _).trans hk2)
 clear hp hb hk2 A0
 go_wp2
 go_end0
 exact ⟨rfl, K1.out, K2.out, K3.out⟩

/-- A node's block stays where the printer writes. -/
theorem node_kept {w w' : World} {b nb : Nat} {C : Array Value} (h : w.heap[nb]? = some (.cells C 38 (0, 0))) (hb : nb ≠ b) (hk : Lib.OthersKept 5 (some b) w w') : w'.heap[nb]? = some (.cells C 38 (0, 0)) :=
 hk nb _ h (by simpa using hb) (by simp)

set_option maxRecDepth 100000 in
set_option maxHeartbeats 1600000 in
theorem part_of (k m : Int) (s : ByteArray) (kk : List T) (IH : PEx (.node k s m kk)) (W0 : World) (dp : Int) (B b : Nat) (l : List UInt8) (a : Option Addr) (c : Nat) (r : Int) (w : World) (hg : Good (.node k s m kk)) (hc : cnt (.node k s m kk) ≤ 500) (hk : Kids W0 0 a kk) (har : Around W0 dp B b l w) (hl : l.length + (par k (exS (.node k s m kk)) (r + 1)).size ≤ 100000000000000) :
    Calls Tryz.prog 76 #[.pointer (some ⟨b, 0, none⟩), .agg #[.int .i64 k, .string s, .int .i64 m, .slice a kk.length c], .int .i64 r] w (Wrote dp B b (l ++ (par k (exS (.node k s m kk)) (r + 1)).data.toList) w) := by
 have HT := mkHid (fun W => ties_any k W)
 have A0 := har.alloc (.cells #[.int .i64 k, .string s, .int .i64 m, .slice a kk.length c] 38)
 have H0 := World.heap_alloc_new w #[.int .i64 k, .string s, .int .i64 m, .slice a kk.length c] 38
 have hblt : w.heap.size ≠ b := by have := har.pr.lt; omega
 have hA : (exS (.node k s m kk)).data.toList.length = (exS (.node k s m kk)).size := (Lib.size_eq _).symm
 by_cases h : tightI k < r + 1
 ·have h' : ¬ r ≤ tightI k - 1 := by omega
  have hps : (par k (exS (.node k s m kk)) (r + 1)).size = 1 + (exS (.node k s m kk)).size + 1 := by
   unfold par
   rw [if_pos h, ByteArray.size_append, ByteArray.size_append]
   rfl
  rw [hps] at hl
  have HP := mkHid (show (par k (exS (.node k s m kk)) (r + 1)).data.toList = cat [⟨#[40]⟩] ++ exT (.node k s m kk) ++ cat [⟨#[41]⟩] by
   unfold par
   rw [if_pos h]
   simp [cat, exT])
  generalize (par k (exS (.node k s m kk)) (r + 1)).data.toList = P at HP ⊢
  go_enter Tryz.func76, Tryz.ntmps76
  go_wp2_with fail
  refine (HT.out _).mono ?_
  rintro e w1 ⟨rfl, rfl⟩
  go_wp2_with fail
  refine (put_new W0 dp B b l [⟨#[40]⟩] #[.string ⟨#[40]⟩] _ _ (by simp) A0 (by simp [cat]; omega) (by simp) rfl).mono ?_
  rintro e w2 ⟨rfl, hp, hb, hk2⟩
  have A2 := A0.step hp hb
  have H2 := node_kept H0 hblt hk2
  have K2 := mkHid (((Below.refl B w).alloc har.hi _).trans hb)
  have K3 := mkHid (((Lib.OthersKept.refl 5 (some b) w).alloc _).trans hk2)
  have c0 : w2.cell? ⟨w.heap.size, 0, none⟩ = some (.int .i64 k) := by rw [Lib.cell_of_heap H2]; rfl
  have c1 : w2.cell? ⟨w.heap.size, 1, none⟩ = some (.string s) := by rw [Lib.cell_of_heap H2]; rfl
  have c2 : w2.cell? ⟨w.heap.size, 2, none⟩ = some (.int .i64 m) := by rw [Lib.cell_of_heap H2]; rfl
  have c3 : w2.cell? ⟨w.heap.size, 3, none⟩ = some (.slice a kk.length c) := by rw [Lib.cell_of_heap H2]; rfl
  have AA := mkHid A2
  clear hp hb hk2 A0 H0 H2 A2
  go_wp2_with fail
  refine (IH W0 dp B b _ a c _ hg hc hk AA.out (by simp [cat]; omega)).mono ?_
  rintro e w3 ⟨rfl, hp, hb, hk2⟩
  have A3 := AA.out.step hp hb
  have L2 := mkHid (K2.out.trans hb)
  have L3 := mkHid (K3.out.trans hk2)
  clear hp hb hk2 AA K2 K3 c0 c1 c2 c3
  go_wp2_with fail
  refine (put_new W0 dp B b _ [⟨#[41]⟩] #[.string ⟨#[41]⟩] _ _ rfl A3 (by simp [cat, exT]; omega) (by simp) rfl).mono ?_
  rintro e w4 ⟨rfl, hp, hb, hk2⟩
  rw [List.append_assoc, List.append_assoc, ← List.append_assoc (cat _), ← HP.out] at hp
  have M1 := mkHid hp
  have M2 := mkHid (L2.out.trans hb)
  have M3 := mkHid (L3.out.trans hk2)
  clear hp hb hk2 A3 L2 L3
  go_wp2
  go_end0
  exact ⟨rfl, M1.out, M2.out, M3.out⟩
 ·have h' : r ≤ tightI k - 1 := by omega
  have hps : (par k (exS (.node k s m kk)) (r + 1)).size = (exS (.node k s m kk)).size := by
   unfold par
   rw [if_neg h]
  rw [hps] at hl
  have HP := mkHid (show (par k (exS (.node k s m kk)) (r + 1)).data.toList = exT (.node k s m kk) by
   unfold par
   rw [if_neg h]
   rfl)
  generalize (par k (exS (.node k s m kk)) (r + 1)).data.toList = P at HP ⊢
  go_enter Tryz.func76, Tryz.ntmps76
  go_wp2_with fail
  refine (HT.out _).mono ?_
  rintro e w1 ⟨rfl, rfl⟩
  go_wp2_with fail
  refine (IH W0 dp B b l a c _ hg hc hk A0 (by omega)).mono ?_
  rintro e w2 ⟨rfl, hp, hb, hk2⟩
  rw [← HP.out] at hp
  have K1 := mkHid hp
  have K2 := mkHid (((Below.refl B w).alloc har.hi _).trans hb)
  have K3 := mkHid (((Lib.OthersKept.refl 5 (some b) w).alloc _).trans hk2)
  clear hp hb hk2 A0 H0
  go_wp2
  go_end0
  exact ⟨rfl, K1.out, K2.out, K3.out⟩
end Go.Proofs.YtedfnadgmhjojaaGreatDoor
