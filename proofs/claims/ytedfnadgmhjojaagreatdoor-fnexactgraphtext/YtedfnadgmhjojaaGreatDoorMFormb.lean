/-
  CONTRACTS of the specification's CountNodes and DepthOf.
  A TREE THAT CAME IN, OPENED; four cells of a struct.
  CONTRACTS of the program's staysSmall and isSmall.
  CONTRACTS of the program's rows.
  CONTRACTS of the program's condSign, stmtForm, formOf.
-/
import Derived.Test.YtedfnadgmhjojaaGreatDoorMScan
import Derived.ProofKit
import Derived.OpenShut
import Derived.ShutString
import Derived.ChangeOld
import Derived.Lib.SmallJoins
namespace Go.Proofs.YtedfnadgmhjojaaGreatDoor
open Go.RowKit

mutual
theorem dep_le : ∀ t, dep t ≤ cnt t
 | .node k s m kk => by
   have := deps_le kk
   simp only [cnt, dep]
   omega
theorem deps_le : ∀ kk, deps kk ≤ cnts kk
 | [] => by simp [cnts, deps]
 | t :: r => by
   have := dep_le t
   have := deps_le r
   simp only [cnts, deps]
   omega
end
theorem cnt_mem {ks : List T} {t : T} (h : t ∈ ks) : cnt t ≤ cnts ks := by
 induction ks with
 | nil => cases h
 | cons x r ih =>
   simp only [cnts]
   rcases List.mem_cons.1 h with rfl | h
   ·omega
   ·have := ih h; omega
theorem cnts_take_le (ks : List T) (i : Nat) : cnts (ks.take i) ≤ cnts ks := by
 induction ks generalizing i with
 | nil => simp
 | cons x r ih => cases i <;> simp [cnts, ih]
theorem deps_take_le (ks : List T) (i : Nat) : deps (ks.take i) ≤ deps ks := by
 induction ks generalizing i with
 | nil => simp
 | cons x r ih =>
   cases i with
   | zero => simp [deps]
   | succ i =>
     simp only [List.take_succ_cons, deps]
     have := ih i
     omega

def SCount (t : T) : Prop := match t with
 | .node k s m kk => ∀ (a : Option Addr) (c : Nat) (w : World), kk.length ≤ maxLen → cnt t ≤ 2097152 → Kids w 0 a kk →
   Calls Tryz.prog 57 #[.agg #[.int .i64 k, .string s, .int .i64 m, .slice a kk.length c]] w fun e w' => e = .returned (.int .i64 (cnt t)) ∧ Below w.heap.size w w'

set_option maxHeartbeats 800000 in
theorem sCount_ok (t : T) : SCount t := by
 refine T.induct ?_ t
 intro k s m kk IH a c w hn hc hk
 have hc' : cnts kk ≤ 2097151 := by simp only [cnt] at hc; omega
 unfold maxLen at hn
 have HI := mkHid IH
 have HK := mkHid hk
 have A0 := mkHid ((Below.refl w.heap.size w).alloc (Nat.le_refl _) (.cells #[.int .i64 k, .string s, .int .i64 m, .slice a kk.length c] 38))
 clear IH hk hc
 go_enter Tryz.func57, Tryz.ntmps57
 go_wp2
 go_loopw [3, 4] (fun l i w' => ∃ (j : Nat), j ≤ kk.length ∧ i = .int .i64 j ∧ l = .int .i64 (1 + cnts (kk.take j)) ∧ Below w.heap.size w w' ∧ w'.cell? ⟨w.heap.size, 3, none⟩ = some (.slice a kk.length c)) (fun _ i _ => kk.length - (intOf i).toNat)
 case atStart => exact ⟨0, Nat.zero_le _, rfl, by simp [cnts], A0.out, by simp [go_sem]⟩
 case round =>
  obtain ⟨j, hj, rfl, rfl, hbel, hcell⟩ := hrel
  have HB := mkHid hbel
  clear hbel A0
  by_cases hlt : j < kk.length
  ·obtain ⟨x, hx⟩ : ∃ x, kk[j]? = some x := ⟨_, List.getElem?_eq_getElem hlt⟩
   have HX := mkHid hx
   have hlo : cnts (kk.take j) ≤ 2097151 := Nat.le_trans (cnts_take_le kk j) hc'
   rcases HK.out with rfl | ⟨b, o, rfl, _, hl⟩
   ·simp at hx
   obtain ⟨xk, xs, xm, xkk⟩ := x
   obtain ⟨xa, xc, hc0, hc1, hc2, hc3, hs, hkn, hkids⟩ := (hl.below (Nat.zero_le _) HB.out).at hx
   have HC := mkHid (fun W (hW : Below wr.heap.size wr W) => HI.out _ (List.mem_of_getElem? hx) xa xc W hkn (Nat.le_trans (cnt_mem (List.mem_of_getElem? hx)) (by omega)) (hkids.below hW))
   clear hx hs hkn hkids hl
   have hlb : b < wr.heap.size := World.block_lt_of_cell? wr _ hc0
   have hlw : w.heap.size < wr.heap.size := World.block_lt_of_cell? wr _ hcell
   have HM := mkHid (And.intro hlb hlw)
   clear hlb hlw
   go_wp2_with fail
   refine (HC.out _ (Below.refl _ _)).mono ?_
   rintro e w1 ⟨rfl, hb1⟩
   have HB1 := mkHid (HB.out.trans (hb1.mono HB.out.size))
   have hcell1 := (hb1.cell (p := ⟨w.heap.size, 3, none⟩) HM.out.2).trans hcell
   have hx3 : (1 : Int) + cnts (kk.take j) + cnt (.node xk xs xm xkk) = 1 + cnts (kk.take (j + 1)) := by have := cnts_take HX.out; omega
   have hx4 : cnts (kk.take (j + 1)) ≤ 2097151 := Nat.le_trans (cnts_take_le kk (j + 1)) hc'
   have HX3 := mkHid hx3
   clear hb1 hx3
   have hq : (1 : Int) + cnts (kk.take j) + cnt (.node xk xs xm xkk) ≤ 2200000 := by rw [HX3.out]; omega
   go_wp2
   go_roundw
   case rel => exact ⟨j + 1, by omega, by go_num, by rw [← HX3.out], HB1.out, hcell1⟩
   case measure => simp [intOf]; omega
  ·go_wp2
   go_ret
   refine ⟨?_, HB.out⟩
   rw [List.take_of_length_le (by omega)]
   simp [cnt]
def SDepth (t : T) : Prop := match t with
 | .node k s m kk => ∀ (a : Option Addr) (c : Nat) (w : World), kk.length ≤ maxLen → cnt t ≤ 2097152 → Kids w 0 a kk →
   Calls Tryz.prog 58 #[.agg #[.int .i64 k, .string s, .int .i64 m, .slice a kk.length c]] w fun e w' => e = .returned (.int .i64 (dep t)) ∧ Below w.heap.size w w'

set_option maxHeartbeats 800000 in
theorem sDepth_ok (t : T) : SDepth t := by
 refine T.induct ?_ t
 intro k s m kk IH a c w hn hc hk
 have hc' : cnts kk ≤ 2097151 := by simp only [cnt] at hc; omega
 unfold maxLen at hn
 have HI := mkHid IH
 have HK := mkHid hk
 have A0 := mkHid ((Below.refl w.heap.size w).alloc (Nat.le_refl _) (.cells #[.int .i64 k, .string s, .int .i64 m, .slice a kk.length c] 38))
 clear IH hk hc
 go_enter Tryz.func58, Tryz.ntmps58
 go_wp2
 go_loopw [3, 4] (fun l i w' => ∃ (j : Nat), j ≤ kk.length ∧ i = .int .i64 j ∧ l = .int .i64 (deps (kk.take j)) ∧ Below w.heap.size w w' ∧ w'.cell? ⟨w.heap.size, 3, none⟩ = some (.slice a kk.length c)) (fun _ i _ => kk.length - (intOf i).toNat)
 case atStart => exact ⟨0, Nat.zero_le _, rfl, by simp [deps], A0.out, by simp [go_sem]⟩
 case round =>
  obtain ⟨j, hj, rfl, rfl, hbel, hcell⟩ := hrel
  have HB := mkHid hbel
  clear hbel A0
  by_cases hlt : j < kk.length
  ·obtain ⟨x, hx⟩ : ∃ x, kk[j]? = some x := ⟨_, List.getElem?_eq_getElem hlt⟩
   have HX := mkHid hx
   have hlo : cnts (kk.take j) ≤ 2097151 := Nat.le_trans (cnts_take_le kk j) hc'
   rcases HK.out with rfl | ⟨b, o, rfl, _, hl⟩
   ·simp at hx
   obtain ⟨xk, xs, xm, xkk⟩ := x
   obtain ⟨xa, xc, hc0, hc1, hc2, hc3, hs, hkn, hkids⟩ := (hl.below (Nat.zero_le _) HB.out).at hx
   have HC := mkHid (fun W (hW : Below wr.heap.size wr W) => HI.out _ (List.mem_of_getElem? hx) xa xc W hkn (Nat.le_trans (cnt_mem (List.mem_of_getElem? hx)) (by omega)) (hkids.below hW))
   clear hx hs hkn hkids hl
   have hlb : b < wr.heap.size := World.block_lt_of_cell? wr _ hc0
   have hlw : w.heap.size < wr.heap.size := World.block_lt_of_cell? wr _ hcell
   have HM := mkHid (And.intro hlb hlw)
   clear hlb hlw
   go_wp2_with fail
   refine (HC.out _ (Below.refl _ _)).mono ?_
   rintro e w1 ⟨rfl, hb1⟩
   have HB1 := mkHid (HB.out.trans (hb1.mono HB.out.size))
   have hcell1 := (hb1.cell (p := ⟨w.heap.size, 3, none⟩) HM.out.2).trans hcell
   have hx4 : dep (.node xk xs xm xkk) ≤ 2097152 := Nat.le_trans (dep_le _) (Nat.le_trans (cnt_mem (List.mem_of_getElem? HX.out)) (by omega))
   have hlo' : deps (kk.take j) ≤ 2097151 := Nat.le_trans (deps_take_le kk j) (Nat.le_trans (deps_le kk) hc')
   have HX3 := mkHid (deps_take HX.out)
   clear hb1
   by_cases hgt : (deps (kk.take j) : Int) < dep (.node xk xs xm xkk)
   ·go_wp2
    go_roundw
    case rel => exact ⟨j + 1, by omega, by go_num, by rw [HX3.out, Nat.max_eq_right (by omega)], HB1.out, hcell1⟩
    case measure => simp [intOf]; omega
   ·go_wp2
    go_roundw
    case rel => exact ⟨j + 1, by omega, by go_num, by rw [HX3.out, Nat.max_eq_left (by omega)], HB1.out, hcell1⟩
    case measure => simp [intOf]; omega
  ·have hlo' : deps kk ≤ 2097151 := Nat.le_trans (deps_le kk) hc'
   have e : kk.take j = kk := List.take_of_length_le (by omega)
   rw [e]
   go_wp2
   go_ret
   refine ⟨?_, HB.out⟩
   simp [dep]
end Go.Proofs.YtedfnadgmhjojaaGreatDoor
namespace Go.Proofs.YtedfnadgmhjojaaGreatDoor
open Go.ChangeShapes Go.WideShapes Go.ChangeAt Go.RowKit Go.Joins Go.Deep

theorem Tryz.own : ownKnob Tryz.prog.godebug = none := by kernel_rfl
theorem Tryz.laidOut : laidOutB Tryz.prog = true := by kernel_rfl
theorem Tryz.cells57 : Tryz.prog.cellsOf 57 = 4 := by kernel_rfl
theorem Tryz.cells3 : Tryz.prog.cellsOf 3 = 1 := by kernel_rfl
theorem Tryz.cells9 : Tryz.prog.cellsOf 9 = 1 := by kernel_rfl
theorem Tryz.cells55 : Tryz.prog.cellsOf 55 = 1 := by kernel_rfl
theorem list_of_fn (f : Nat → T) (n : Nat) : ∃ ws : List T, ws.length = n ∧ ∀ i x, ws[i]? = some x → i < n ∧ x = f i := by
 refine ⟨(List.range n).map f, by simp, fun i x hx => ?_⟩
 obtain ⟨hi, e⟩ := List.getElem?_eq_some_iff.1 hx
 simp at hi e
 exact ⟨hi, e.symm⟩
set_option maxRecDepth 100000 in
theorem open_kids {H : Type} {enc : TypeId × Value → H} {W : World} : ∀ (z : Nat) {n : Nat} {v : Value} {x : DataW H × List MemPlace}, SizeOf.sizeOf x.1 < z → DataW.trod enc Tryz.prog W 0 (fun _ => true) true n 55 [v] = some x →
    ∃ (a : Option Addr) (c : Nat) (kk : List T), v = .slice a kk.length c ∧ kk.length ≤ maxLen ∧ Kids W 0 a kk := by
 intro z
 induction z with
 | zero => intro n v x h; omega
 | succ z ih =>
   intro n v x hz h
   rcases open_slice Tryz.underlying55 h with ⟨hcs, _⟩ | ⟨ad, len, cap, m', n2, D, Pl, hcs, _, hl, hm, hmm, hy, hall⟩
   ·simp at hcs
    subst hcs
    exact ⟨none, 0, [], rfl, by simp, .inl rfl⟩
   ·simp at hcs
    subst hcs
    simp only [if_true] at hmm
    rw [Tryz.cells57] at hall
    have hD : ∀ i, i < len → SizeOf.sizeOf (D i) < z := fun i hi => by
     have h5 : D i ∈ (List.range len).map D := List.mem_map.2 ⟨i, List.mem_range.2 hi, rfl⟩
     have h6 := List.sizeOf_lt_of_mem h5
     rw [hy] at hz
     simp at hz
     omega
    by_cases h0 : len = 0
    ·subst h0
     exact ⟨some ad, cap, [], rfl, by simp, .inl rfl⟩
    have one : ∀ i, i < len → ∃ (k : Int) (s : ByteArray) (mm : Int) (a : Option Addr) (c : Nat) (kk : List T), W.cells? 0 (ad.add (i * 4)) 4 = some [.int .i64 k, .string s, .int .i64 mm, .slice a kk.length c] ∧ s.size ≤ maxLen ∧ kk.length ≤ maxLen ∧ Kids W 0 a kk := by
     intro i hi
     obtain ⟨cs', q1, q2⟩ := hall i (by omega)
     obtain ⟨y0, y1, y2, y3, n', hx, hlen, h0, h1, h2, h3⟩ := trod_struct4 Tryz.underlying57 q2
     rw [Tryz.cells57] at hlen
     match cs', hlen with
     | [c0, c1, c2, c3], _ =>
       simp [Tryz.cells3, Tryz.cells9, Tryz.cells55] at h0 h1 h2 h3
       obtain ⟨x0, e0, _, _⟩ := DataW.trod_int Tryz.underlying3 h0
       obtain ⟨x1, e1, _, hs⟩ := DataW.trod_string Tryz.underlying9 h1
       obtain ⟨x2, e2, _, _⟩ := DataW.trod_int Tryz.underlying3 h2
       simp at e0 e1 e2
       subst e0 e1 e2
       have hsz := hD i hi
       have hx' : D i = _ := congrArg Prod.fst hx
       rw [hx'] at hsz
       simp at hsz
       obtain ⟨a, c, kk, rfl, hn, hk⟩ := ih (by omega) h3
       exact ⟨x0, x1, x2, a, c, kk, q1, hs, hn, hk⟩
    have hsp : ad.spot = none := by
     obtain ⟨_, _, _, _, _, _, q1, _⟩ := one 0 (by omega)
     obtain ⟨_, _, hc⟩ := World.cells?_some q1
     have := World.cell?_spot (hc 0 (by omega))
     simpa [Addr.add] using this
    obtain ⟨b, off, spot⟩ := ad
    simp only at hsp
    subst hsp
    have each : ∀ i, i < len → ∃ t : T, Lies W 0 t b (off + i * 4) := by
     intro i hi
     obtain ⟨k, s, mm, a, c, kk, q1, hs', hn', hk⟩ := one i hi
     obtain ⟨_, _, hc⟩ := World.cells?_some q1
     have g0 := hc 0 (by omega)
     have g1 := hc 1 (by omega)
     have g2 := hc 2 (by omega)
     have g3 := hc 3 (by omega)
     rw [add_plain, add_plain] at g0 g1 g2 g3
     refine ⟨.node k s mm kk, ?_⟩
     unfold Lies
     exact ⟨g0, g1, g2, hs', hn', a, c, g3, hk⟩
    have inh : Inhabited T := ⟨.node 0 ⟨#[]⟩ 0 []⟩
    obtain ⟨f, hf'⟩ := choose_lt each
    obtain ⟨ws, hwl, hws⟩ := list_of_fn f len
    refine ⟨some ⟨b, off, none⟩, cap, ws, by rw [hwl], by omega, .inr ⟨b, off, rfl, Nat.zero_le _, LiesL.of fun i t ht => ?_⟩⟩
    obtain ⟨hi, rfl⟩ := hws i t ht
    exact hf' i hi

def Four (w : World) (b : Nat) (k : Int) (s : ByteArray) (m : Int) (a : Option Addr) (n c : Nat) : Prop :=
 w.cell? ⟨b, 0, none⟩ = some (.int .i64 k) ∧ w.cell? ⟨b, 1, none⟩ = some (.string s) ∧ w.cell? ⟨b, 2, none⟩ = some (.int .i64 m) ∧ w.cell? ⟨b, 3, none⟩ = some (.slice a n c)
theorem Four.below {w w' : World} {b : Nat} {k : Int} {s : ByteArray} {m : Int} {a : Option Addr} {n c : Nat} (h : Four w b k s m a n c) (hb : Below w.heap.size w w') : Four w' b k s m a n c := by
 obtain ⟨h0, h1, h2, h3⟩ := h
 have hlt := World.block_lt_of_cell? w _ h0
 have hc : ∀ q, w'.cell? ⟨b, q, none⟩ = w.cell? ⟨b, q, none⟩ := fun q => hb.cell (p := ⟨b, q, none⟩) hlt
 exact ⟨(hc _).trans h0, (hc _).trans h1, (hc _).trans h2, (hc _).trans h3⟩
theorem Four.new (w : World) (k : Int) (s : ByteArray) (m : Int) (a : Option Addr) (n c t : Nat) : Four (w.alloc (.cells #[.int .i64 k, .string s, .int .i64 m, .slice a n c] t)) w.heap.size k s m a n c :=
 ⟨by simp [go_sem], by simp [go_sem], by simp [go_sem], by simp [go_sem]⟩

end Go.Proofs.YtedfnadgmhjojaaGreatDoor
namespace Go.Proofs.YtedfnadgmhjojaaGreatDoor
open Go.RowKit

theorem deps_mem {ks : List T} {t : T} (h : t ∈ ks) : dep t ≤ deps ks := by
 induction ks with
 | nil => cases h
 | cons x r ih =>
   simp only [deps]
   rcases List.mem_cons.1 h with rfl | h
   ·omega
   ·have := ih h; omega
/-- What stands at the pointer. -/
def At (w : World) (pb : Nat) (l : Nat) : Prop := w.cell? ⟨pb, 0, none⟩ = some (.int .i64 l) ∧ w.frozen? ⟨pb, 0, none⟩ = false

theorem At.alloc {w : World} {pb l : Nat} (h : At w pb l) (ob : Obj) : At (w.alloc ob) pb l :=
 ⟨(((Below.refl w.heap.size w).alloc (Nat.le_refl _) ob).cell (p := ⟨pb, 0, none⟩) (World.block_lt_of_cell? w _ h.1)).trans h.1, (((Below.refl w.heap.size w).alloc (Nat.le_refl _) ob).frozen (p := ⟨pb, 0, none⟩) (World.block_lt_of_cell? w _ h.1)).trans h.2⟩
theorem At.set {w : World} {pb l : Nat} (h : At w pb l) {x : Int} (l' : Nat) (hx : x = l') : At (w.setCell ⟨pb, 0, none⟩ (.int .i64 x)) pb l' := by
 subst hx
 exact ⟨World.cell?_setCell_same' w _ _ (by rw [h.1]; rfl), by simpa using h.2⟩

def StOk (t : T) : Prop := match t with
 | .node k s m kk => ∀ (w0 w : World) (a : Option Addr) (c : Nat) (deep l pb : Nat), kk.length ≤ maxLen → Kids w0 0 a kk → Below w0.heap.size w0 w → w0.heap.size ≤ pb → At w pb l → deep ≤ 1000 → l ≤ 1000 →
   Calls Tryz.prog 72 #[.agg #[.int .i64 k, .string s, .int .i64 m, .slice a kk.length c], .int .i64 deep, .pointer (some ⟨pb, 0, none⟩)] w fun e w' =>
    (∃ l', e = .returned (.bool (decide (dep t ≤ deep ∧ cnt t ≤ l))) ∧ At w' pb l' ∧ (dep t ≤ deep → cnt t ≤ l → l' + cnt t = l)) ∧ Below w0.heap.size w0 w'

theorem dep_pos (t : T) : 1 ≤ dep t := by cases t; simp [dep]
theorem cnt_pos (t : T) : 1 ≤ cnt t := by cases t; simp [cnt]

set_option maxHeartbeats 1600000 in
theorem stays_ok (t : T) : StOk t := by
 refine T.induct ?_ t
 intro k s m kk IH w0 w a c deep l pb hn hk hb hpb hat hd hl
 unfold maxLen at hn
 have HI := mkHid IH
 have HK := mkHid hk
 have HB := mkHid hb
 have hlt : pb < w.heap.size := World.block_lt_of_cell? w _ hat.1
 have hsz := hb.size
 have HP := mkHid hpb
 obtain ⟨p0, f0⟩ := hat
 clear IH hk hb hpb
 have A0 := mkHid (HB.out.alloc hsz (.cells #[.int .i64 k, .string s, .int .i64 m, .slice a kk.length c] 38))
 have HW := mkHid (show At w pb l from ⟨p0, f0⟩)
 have HA := mkHid (HW.out.alloc (.cells #[.int .i64 k, .string s, .int .i64 m, .slice a kk.length c] 38))
 by_cases h0 : deep = 0
 ·subst h0
  go_enter Tryz.func72, Tryz.ntmps72
  go_wp2
  go_ret
  have h := dep_pos (.node k s m kk)
  exact ⟨⟨l, by rw [decide_eq_false (by omega)]; rfl, HA.out, fun h1 => by omega⟩, A0.out⟩
 ·have hd0 : ((deep : Int) == 0) = false := by simp; omega
  by_cases h1 : l = 0
  ·subst h1
   go_enter Tryz.func72, Tryz.ntmps72
   go_wp2
   go_ret
   have h := cnt_pos (.node k s m kk)
   exact ⟨⟨0, by rw [decide_eq_false (by omega)]; rfl, HA.out, fun h1 => by omega⟩, A0.out⟩
  ·have hl0 : ((l : Int) == 0) = false := by simp; omega
   have hwl : w0.heap.size ≤ w.heap.size := hsz
   go_enter Tryz.func72, Tryz.ntmps72
   go_wp2
   go_loopw [25] (fun i w' => ∃ (j l' : Nat), j ≤ kk.length ∧ i = .int .i64 j ∧ At w' pb l' ∧ deps (kk.take j) + 1 ≤ deep ∧ l' + cnts (kk.take j) + 1 = l ∧ Below w0.heap.size w0 w') (fun i _ => kk.length - (intOf i).toNat)
   case atStart =>
    exact ⟨0, l - 1, Nat.zero_le _, rfl, (HW.out.set (l - 1) (by omega)).alloc _, by simp [deps]; omega, by simp [cnts]; omega, (HB.out.setCell (p := ⟨pb, 0, none⟩) HP.out _).alloc (by simp; omega) _⟩
   case round =>
    obtain ⟨j, l', hj, rfl, ⟨r0, r1⟩, hdep, hcnt, hbel⟩ := hrel
    have HB1 := mkHid hbel
    have HR := mkHid (And.intro hdep hcnt)
    have hl' : l' ≤ 1000 := by omega
    clear hbel hdep hcnt p0 f0 HA A0 HW
    by_cases hjl : j < kk.length
    ·obtain ⟨x, hx⟩ : ∃ x, kk[j]? = some x := ⟨_, List.getElem?_eq_getElem hjl⟩
     have HX := mkHid hx
     rcases HK.out with rfl | ⟨b, o, rfl, _, hll⟩
     ·simp at hx
     obtain ⟨xk, xs, xm, xkk⟩ := x
     obtain ⟨xa, xc, hc0, hc1, hc2, hc3, hs, hkn, hkids⟩ := hll.at hx
     have hbl := World.block_lt_of_cell? w0 _ hc0
     obtain ⟨g, _⟩ := bcell (W := w0) (w1 := wr) HB1.out
     have d0 := (g _ _ hbl).trans hc0
     have d1 := (g _ _ hbl).trans hc1
     have d2 := (g _ _ hbl).trans hc2
     have d3 := (g _ _ hbl).trans hc3
     have hsr := HB1.out.size
     have HC := mkHid (HI.out _ (List.mem_of_getElem? hx) w0 (wr.alloc (.cells #[.int .i64 xk, .string xs, .int .i64 xm, .slice xa xkk.length xc] 38)) xa xc (deep - 1) l' pb hkn hkids (HB1.out.alloc hsr _) HP.out
      (At.alloc ⟨r0, r1⟩ _) (by omega) hl')
     have hdd : ((deep - 1 : Nat) : Int) = (deep : Int) - 1 := by omega
     rw [hdd] at HC
     clear hx hs hkn hkids hll hc0 hc1 hc2 hc3 g hdd
     go_wp2_with fail
     refine HC.out.mono ?_
     rintro e w1 ⟨⟨l1, rfl, ⟨z0, z1⟩, hfin⟩, hb1⟩
     have HB2 := mkHid hb1
     have HF := mkHid hfin
     have hdx := deps_take HX.out
     have hcx := cnts_take HX.out
     have HT := mkHid (And.intro hdx hcx)
     clear hb1 hfin HC hdx hcx r0 r1
     by_cases hok : dep (.node xk xs xm xkk) ≤ deep - 1 ∧ cnt (.node xk xs xm xkk) ≤ l'
     ·have hb : decide (dep (.node xk xs xm xkk) ≤ deep - 1 ∧ cnt (.node xk xs xm xkk) ≤ l') = true := decide_eq_true hok
      rw [hb]
      have HO := mkHid hok
      clear hb hok
      go_wp2
      go_roundw
      case rel =>
       have h2 := HR.out
       have h3 := HT.out
       have h4 := HO.out
       have h5 := HF.out h4.1 h4.2
       exact ⟨j + 1, l1, by omega, by go_num, ⟨z0, z1⟩, by omega, by omega, HB2.out⟩
      case measure => simp [intOf]; omega
     ·have hb : decide (dep (.node xk xs xm xkk) ≤ deep - 1 ∧ cnt (.node xk xs xm xkk) ≤ l') = false := decide_eq_false hok
      rw [hb]
      have HO := mkHid hok
      clear hb hok
      go_wp2
      go_ret
      have h2 := HR.out
      have h3 := HT.out
      have h4 := HO.out
      have h5 := deps_mem (List.mem_of_getElem? HX.out)
      have h6 := cnts_take_le kk (j + 1)
      have h7 : ¬ (dep (.node k s m kk) ≤ deep ∧ cnt (.node k s m kk) ≤ l) := by
       simp only [dep, cnt] at h4 h5 h6 h3 ⊢
       omega
      exact ⟨⟨l1, by rw [decide_eq_false h7]; rfl, ⟨z0, z1⟩, fun g1 g2 => absurd ⟨g1, g2⟩ h7⟩, HB2.out⟩
    ·go_wp2
     go_ret
     have h2 := HR.out
     rw [List.take_of_length_le (by omega)] at h2
     refine ⟨⟨l', by rw [decide_eq_true (by simp only [dep, cnt]; omega)]; rfl, ⟨r0, r1⟩, fun _ _ => by simp only [cnt]; omega⟩, HB1.out⟩

set_option maxHeartbeats 400000 in
theorem isSmall_ok (k : Int) (s : ByteArray) (m : Int) (kk : List T) (a : Option Addr) (c : Nat) (w : World) (hn : kk.length ≤ maxLen) (hk : Kids w 0 a kk) :
    Calls Tryz.prog 50 #[.agg #[.int .i64 k, .string s, .int .i64 m, .slice a kk.length c]] w fun e w' => e = .returned (.bool (decide (dep (.node k s m kk) ≤ 24 ∧ cnt (.node k s m kk) ≤ 500))) ∧ Below w.heap.size w w' := by
 have HN := mkHid hn
 have HK := mkHid hk
 clear hn hk
 go_enter Tryz.func50, Tryz.ntmps50
 go_wp2_with fail
 refine (stays_ok (.node k s m kk) w _ a c 24 500 (w.heap.size + 1) HN.out HK.out (((Below.refl _ _).alloc (Nat.le_refl _) _).alloc (by simp) _) (by omega) ⟨by simp [go_sem], by simp [go_sem]⟩ (by omega) (by omega)).mono ?_
 rintro e w1 ⟨⟨l1, rfl, _, _⟩, hb1⟩
 have HB := mkHid hb1
 generalize hq : decide (dep (.node k s m kk) ≤ 24 ∧ cnt (.node k s m kk) ≤ 500) = q
 have HQ := mkHid hq
 clear hb1 hq
 go_wp2
 go_ret
 exact ⟨by rw [HQ.out]; rfl, HB.out⟩
end Go.Proofs.YtedfnadgmhjojaaGreatDoor
namespace Go.Proofs.YtedfnadgmhjojaaGreatDoor
open Go.RowKit

structure Rw where
 grp : Int
 named : Bool
 least : Int
 most : Int
 many : Int
 kids : List Int

/-- The groups of the kids lie in memory. -/
def Grps (w : World) (a : Option Addr) (l : List Int) : Prop := l = [] ∨ ∃ b, a = some ⟨b, 0, none⟩ ∧ ∀ (i : Nat) (x : Int), l[i]? = some x → w.cell? ⟨b, i, none⟩ = some (.int .i64 x)
def RowOk (r : Rw) (t : TypeId) (v : Value) (f : FuncId) : Prop :=
 (∀ W, (method 281 t v "loop.example/g00093/impl.row").run Tryz.prog W = .ok (f, v) W) ∧ (∀ W, (callFunc f #[v]).run Tryz.prog W = .ok (.enter f #[v]) W) ∧
 ∀ W, Calls Tryz.prog f #[v] W fun e w' => (∃ (a : Option Addr) (c : Nat), e = .returned (.agg #[.int .i64 r.grp, .bool r.named, .int .i64 r.least, .int .i64 r.most, .int .i64 r.many, .slice a r.kids.length c]) ∧ Grps w' a r.kids) ∧ Below W.heap.size W w'
def rw0 (t : Nat) : Rw := match t with
 | 120 => ⟨1, false, 0, 1000000, 0, []⟩
 | 122 => ⟨1, true, 0, 0, 0, []⟩
 | 124 => ⟨1, true, 0, 0, 0, [1]⟩
 | 123 => ⟨1, true, 0, 0, 0, []⟩
 | 125 => ⟨1, false, 0, 0, 0, [1]⟩
 | 128 => ⟨1, false, 0, 0, 0, [1, 1]⟩
 | 147 => ⟨5, true, 0, 0, 0, []⟩
 | 148 => ⟨5, true, -1, 1000000, 0, []⟩
 | 149 => ⟨6, false, 0, 0, 5, [4]⟩
 | 130 => ⟨2, false, 0, 0, 0, [1, 1]⟩
 | 152 => ⟨3, true, 0, 0, 0, [1]⟩
 | 153 => ⟨3, true, 0, 0, 0, [1, 1]⟩
 | 154 => ⟨3, true, 0, 0, 0, []⟩
 | 158 => ⟨3, false, 0, 0, 0, [2, 4, 4]⟩
 | 159 => ⟨3, false, 0, 0, 0, [2, 4]⟩
 | 160 => ⟨3, true, 0, 0, 0, [1, 1, 4]⟩
 | 155 => ⟨3, false, 0, 0, 0, [2]⟩
 | 157 => ⟨3, false, 0, 0, 0, []⟩
 | 162 => ⟨4, false, 0, 0, 3, []⟩
 | _ => ⟨0, false, 0, 0, 0, []⟩

set_option maxHeartbeats 800000 in
theorem num_row : RowOk (rw0 120) 120 (.agg #[]) 153 := by
 refine ⟨fun W => by kernel_rfl, fun W => by kernel_rfl, fun W => ?_⟩
 go_enter Tryz.func153, Tryz.ntmps153
 go_wp2
 refine bodyPost_ret (v := .agg #[.int .i64 1, .bool false, .int .i64 (0), .int .i64 1000000, .int .i64 0, .slice none 0 0]) (by simp [results, Tryz.results153, go_sem]) rfl ⟨⟨_, _, rfl, ?_⟩, ?_⟩
 ·exact .inl rfl
 ·exact ((Below.refl _ _).alloc (Nat.le_refl _) _).alloc (by simp) _
set_option maxHeartbeats 800000 in
theorem var_row : RowOk (rw0 122) 122 (.agg #[]) 154 := by
 refine ⟨fun W => by kernel_rfl, fun W => by kernel_rfl, fun W => ?_⟩
 go_enter Tryz.func154, Tryz.ntmps154
 go_wp2
 refine bodyPost_ret (v := .agg #[.int .i64 1, .bool true, .int .i64 (0), .int .i64 0, .int .i64 0, .slice none 0 0]) (by simp [results, Tryz.results154, go_sem]) rfl ⟨⟨_, _, rfl, ?_⟩, ?_⟩
 ·exact .inl rfl
 ·exact ((Below.refl _ _).alloc (Nat.le_refl _) _).alloc (by simp) _
set_option maxHeartbeats 800000 in
theorem cell_row : RowOk (rw0 124) 124 (.agg #[]) 156 := by
 refine ⟨fun W => by kernel_rfl, fun W => by kernel_rfl, fun W => ?_⟩
 go_enter Tryz.func156, Tryz.ntmps156
 go_wp2
 refine bodyPost_ret (v := .agg #[.int .i64 1, .bool true, .int .i64 (0), .int .i64 0, .int .i64 0, .slice (some ⟨W.heap.size + 1 + 1, 0, none⟩) 1 1]) (by simp [results, Tryz.results156, go_sem]) rfl ⟨⟨_, _, rfl, ?_⟩, ?_⟩
 ·refine .inr ⟨_, rfl, fun i x hx => ?_⟩
  match i with
  | 0 => simp [rw0] at hx; subst hx; simp [go_sem]
  | i + 1 => simp [rw0] at hx
 ·exact (((Below.refl _ _).alloc (Nat.le_refl _) _).alloc (by simp) _).alloc (by simp; omega) _
set_option maxHeartbeats 800000 in
theorem len_row : RowOk (rw0 123) 123 (.agg #[]) 155 := by
 refine ⟨fun W => by kernel_rfl, fun W => by kernel_rfl, fun W => ?_⟩
 go_enter Tryz.func155, Tryz.ntmps155
 go_wp2
 refine bodyPost_ret (v := .agg #[.int .i64 1, .bool true, .int .i64 (0), .int .i64 0, .int .i64 0, .slice none 0 0]) (by simp [results, Tryz.results155, go_sem]) rfl ⟨⟨_, _, rfl, ?_⟩, ?_⟩
 ·exact .inl rfl
 ·exact ((Below.refl _ _).alloc (Nat.le_refl _) _).alloc (by simp) _
set_option maxHeartbeats 800000 in
theorem neg_row : RowOk (rw0 125) 125 (.agg #[]) 157 := by
 refine ⟨fun W => by kernel_rfl, fun W => by kernel_rfl, fun W => ?_⟩
 go_enter Tryz.func157, Tryz.ntmps157
 go_wp2
 refine bodyPost_ret (v := .agg #[.int .i64 1, .bool false, .int .i64 (0), .int .i64 0, .int .i64 0, .slice (some ⟨W.heap.size + 1 + 1, 0, none⟩) 1 1]) (by simp [results, Tryz.results157, go_sem]) rfl ⟨⟨_, _, rfl, ?_⟩, ?_⟩
 ·refine .inr ⟨_, rfl, fun i x hx => ?_⟩
  match i with
  | 0 => simp [rw0] at hx; subst hx; simp [go_sem]
  | i + 1 => simp [rw0] at hx
 ·exact (((Below.refl _ _).alloc (Nat.le_refl _) _).alloc (by simp) _).alloc (by simp; omega) _
set_option maxHeartbeats 800000 in
theorem pair_row (s : ByteArray) : RowOk (rw0 128) 128 (.agg #[.string s]) 158 := by
 refine ⟨fun W => by kernel_rfl, fun W => by kernel_rfl, fun W => ?_⟩
 go_enter Tryz.func158, Tryz.ntmps158
 go_wp2
 refine bodyPost_ret (v := .agg #[.int .i64 1, .bool false, .int .i64 (0), .int .i64 0, .int .i64 0, .slice (some ⟨W.heap.size + 1 + 1, 0, none⟩) 2 2]) (by simp [results, Tryz.results158, go_sem]) rfl ⟨⟨_, _, rfl, ?_⟩, ?_⟩
 ·refine .inr ⟨_, rfl, fun i x hx => ?_⟩
  match i with
  | 0 => simp [rw0] at hx; subst hx; simp [go_sem]
  | 1 => simp [rw0] at hx; subst hx; simp [go_sem]
  | i + 2 => simp [rw0] at hx
 ·exact (((Below.refl _ _).alloc (Nat.le_refl _) _).alloc (by simp) _).alloc (by simp; omega) _
set_option maxHeartbeats 800000 in
theorem name_row : RowOk (rw0 147) 147 (.agg #[]) 160 := by
 refine ⟨fun W => by kernel_rfl, fun W => by kernel_rfl, fun W => ?_⟩
 go_enter Tryz.func160, Tryz.ntmps160
 go_wp2
 refine bodyPost_ret (v := .agg #[.int .i64 5, .bool true, .int .i64 (0), .int .i64 0, .int .i64 0, .slice none 0 0]) (by simp [results, Tryz.results160, go_sem]) rfl ⟨⟨_, _, rfl, ?_⟩, ?_⟩
 ·exact .inl rfl
 ·exact ((Below.refl _ _).alloc (Nat.le_refl _) _).alloc (by simp) _
set_option maxHeartbeats 800000 in
theorem array_row : RowOk (rw0 148) 148 (.agg #[]) 161 := by
 refine ⟨fun W => by kernel_rfl, fun W => by kernel_rfl, fun W => ?_⟩
 go_enter Tryz.func161, Tryz.ntmps161
 go_wp2
 refine bodyPost_ret (v := .agg #[.int .i64 5, .bool true, .int .i64 (-1), .int .i64 1000000, .int .i64 0, .slice none 0 0]) (by simp [results, Tryz.results161, go_sem]) rfl ⟨⟨_, _, rfl, ?_⟩, ?_⟩
 ·exact .inl rfl
 ·exact ((Below.refl _ _).alloc (Nat.le_refl _) _).alloc (by simp) _
set_option maxHeartbeats 800000 in
theorem prog_row : RowOk (rw0 149) 149 (.agg #[]) 162 := by
 refine ⟨fun W => by kernel_rfl, fun W => by kernel_rfl, fun W => ?_⟩
 go_enter Tryz.func162, Tryz.ntmps162
 go_wp2
 refine bodyPost_ret (v := .agg #[.int .i64 6, .bool false, .int .i64 (0), .int .i64 0, .int .i64 5, .slice (some ⟨W.heap.size + 1 + 1, 0, none⟩) 1 1]) (by simp [results, Tryz.results162, go_sem]) rfl ⟨⟨_, _, rfl, ?_⟩, ?_⟩
 ·refine .inr ⟨_, rfl, fun i x hx => ?_⟩
  match i with
  | 0 => simp [rw0] at hx; subst hx; simp [go_sem]
  | i + 1 => simp [rw0] at hx
 ·exact (((Below.refl _ _).alloc (Nat.le_refl _) _).alloc (by simp) _).alloc (by simp; omega) _
set_option maxHeartbeats 800000 in
theorem cond_row (s : ByteArray) : RowOk (rw0 130) 130 (.agg #[.string s]) 159 := by
 refine ⟨fun W => by kernel_rfl, fun W => by kernel_rfl, fun W => ?_⟩
 go_enter Tryz.func159, Tryz.ntmps159
 go_wp2
 refine bodyPost_ret (v := .agg #[.int .i64 2, .bool false, .int .i64 (0), .int .i64 0, .int .i64 0, .slice (some ⟨W.heap.size + 1 + 1, 0, none⟩) 2 2]) (by simp [results, Tryz.results159, go_sem]) rfl ⟨⟨_, _, rfl, ?_⟩, ?_⟩
 ·refine .inr ⟨_, rfl, fun i x hx => ?_⟩
  match i with
  | 0 => simp [rw0] at hx; subst hx; simp [go_sem]
  | 1 => simp [rw0] at hx; subst hx; simp [go_sem]
  | i + 2 => simp [rw0] at hx
 ·exact (((Below.refl _ _).alloc (Nat.le_refl _) _).alloc (by simp) _).alloc (by simp; omega) _
set_option maxHeartbeats 800000 in
theorem set_row : RowOk (rw0 152) 152 (.agg #[]) 163 := by
 refine ⟨fun W => by kernel_rfl, fun W => by kernel_rfl, fun W => ?_⟩
 go_enter Tryz.func163, Tryz.ntmps163
 go_wp2
 refine bodyPost_ret (v := .agg #[.int .i64 3, .bool true, .int .i64 (0), .int .i64 0, .int .i64 0, .slice (some ⟨W.heap.size + 1 + 1, 0, none⟩) 1 1]) (by simp [results, Tryz.results163, go_sem]) rfl ⟨⟨_, _, rfl, ?_⟩, ?_⟩
 ·refine .inr ⟨_, rfl, fun i x hx => ?_⟩
  match i with
  | 0 => simp [rw0] at hx; subst hx; simp [go_sem]
  | i + 1 => simp [rw0] at hx
 ·exact (((Below.refl _ _).alloc (Nat.le_refl _) _).alloc (by simp) _).alloc (by simp; omega) _
set_option maxHeartbeats 800000 in
theorem put_row : RowOk (rw0 153) 153 (.agg #[]) 164 := by
 refine ⟨fun W => by kernel_rfl, fun W => by kernel_rfl, fun W => ?_⟩
 go_enter Tryz.func164, Tryz.ntmps164
 go_wp2
 refine bodyPost_ret (v := .agg #[.int .i64 3, .bool true, .int .i64 (0), .int .i64 0, .int .i64 0, .slice (some ⟨W.heap.size + 1 + 1, 0, none⟩) 2 2]) (by simp [results, Tryz.results164, go_sem]) rfl ⟨⟨_, _, rfl, ?_⟩, ?_⟩
 ·refine .inr ⟨_, rfl, fun i x hx => ?_⟩
  match i with
  | 0 => simp [rw0] at hx; subst hx; simp [go_sem]
  | 1 => simp [rw0] at hx; subst hx; simp [go_sem]
  | i + 2 => simp [rw0] at hx
 ·exact (((Below.refl _ _).alloc (Nat.le_refl _) _).alloc (by simp) _).alloc (by simp; omega) _
set_option maxHeartbeats 800000 in
theorem read_row : RowOk (rw0 154) 154 (.agg #[]) 165 := by
 refine ⟨fun W => by kernel_rfl, fun W => by kernel_rfl, fun W => ?_⟩
 go_enter Tryz.func165, Tryz.ntmps165
 go_wp2
 refine bodyPost_ret (v := .agg #[.int .i64 3, .bool true, .int .i64 (0), .int .i64 0, .int .i64 0, .slice none 0 0]) (by simp [results, Tryz.results165, go_sem]) rfl ⟨⟨_, _, rfl, ?_⟩, ?_⟩
 ·exact .inl rfl
 ·exact ((Below.refl _ _).alloc (Nat.le_refl _) _).alloc (by simp) _
set_option maxHeartbeats 800000 in
theorem ifs_row : RowOk (rw0 158) 158 (.agg #[]) 168 := by
 refine ⟨fun W => by kernel_rfl, fun W => by kernel_rfl, fun W => ?_⟩
 go_enter Tryz.func168, Tryz.ntmps168
 go_wp2
 refine bodyPost_ret (v := .agg #[.int .i64 3, .bool false, .int .i64 (0), .int .i64 0, .int .i64 0, .slice (some ⟨W.heap.size + 1 + 1, 0, none⟩) 3 3]) (by simp [results, Tryz.results168, go_sem]) rfl ⟨⟨_, _, rfl, ?_⟩, ?_⟩
 ·refine .inr ⟨_, rfl, fun i x hx => ?_⟩
  match i with
  | 0 => simp [rw0] at hx; subst hx; simp [go_sem]
  | 1 => simp [rw0] at hx; subst hx; simp [go_sem]
  | 2 => simp [rw0] at hx; subst hx; simp [go_sem]
  | i + 3 => simp [rw0] at hx
 ·exact (((Below.refl _ _).alloc (Nat.le_refl _) _).alloc (by simp) _).alloc (by simp; omega) _
set_option maxHeartbeats 800000 in
theorem while_row : RowOk (rw0 159) 159 (.agg #[]) 169 := by
 refine ⟨fun W => by kernel_rfl, fun W => by kernel_rfl, fun W => ?_⟩
 go_enter Tryz.func169, Tryz.ntmps169
 go_wp2
 refine bodyPost_ret (v := .agg #[.int .i64 3, .bool false, .int .i64 (0), .int .i64 0, .int .i64 0, .slice (some ⟨W.heap.size + 1 + 1, 0, none⟩) 2 2]) (by simp [results, Tryz.results169, go_sem]) rfl ⟨⟨_, _, rfl, ?_⟩, ?_⟩
 ·refine .inr ⟨_, rfl, fun i x hx => ?_⟩
  match i with
  | 0 => simp [rw0] at hx; subst hx; simp [go_sem]
  | 1 => simp [rw0] at hx; subst hx; simp [go_sem]
  | i + 2 => simp [rw0] at hx
 ·exact (((Below.refl _ _).alloc (Nat.le_refl _) _).alloc (by simp) _).alloc (by simp; omega) _
set_option maxHeartbeats 800000 in
theorem fors_row : RowOk (rw0 160) 160 (.agg #[]) 170 := by
 refine ⟨fun W => by kernel_rfl, fun W => by kernel_rfl, fun W => ?_⟩
 go_enter Tryz.func170, Tryz.ntmps170
 go_wp2
 refine bodyPost_ret (v := .agg #[.int .i64 3, .bool true, .int .i64 (0), .int .i64 0, .int .i64 0, .slice (some ⟨W.heap.size + 1 + 1, 0, none⟩) 3 3]) (by simp [results, Tryz.results170, go_sem]) rfl ⟨⟨_, _, rfl, ?_⟩, ?_⟩
 ·refine .inr ⟨_, rfl, fun i x hx => ?_⟩
  match i with
  | 0 => simp [rw0] at hx; subst hx; simp [go_sem]
  | 1 => simp [rw0] at hx; subst hx; simp [go_sem]
  | 2 => simp [rw0] at hx; subst hx; simp [go_sem]
  | i + 3 => simp [rw0] at hx
 ·exact (((Below.refl _ _).alloc (Nat.le_refl _) _).alloc (by simp) _).alloc (by simp; omega) _
set_option maxHeartbeats 800000 in
theorem check_row : RowOk (rw0 155) 155 (.agg #[]) 166 := by
 refine ⟨fun W => by kernel_rfl, fun W => by kernel_rfl, fun W => ?_⟩
 go_enter Tryz.func166, Tryz.ntmps166
 go_wp2
 refine bodyPost_ret (v := .agg #[.int .i64 3, .bool false, .int .i64 (0), .int .i64 0, .int .i64 0, .slice (some ⟨W.heap.size + 1 + 1, 0, none⟩) 1 1]) (by simp [results, Tryz.results166, go_sem]) rfl ⟨⟨_, _, rfl, ?_⟩, ?_⟩
 ·refine .inr ⟨_, rfl, fun i x hx => ?_⟩
  match i with
  | 0 => simp [rw0] at hx; subst hx; simp [go_sem]
  | i + 1 => simp [rw0] at hx
 ·exact (((Below.refl _ _).alloc (Nat.le_refl _) _).alloc (by simp) _).alloc (by simp; omega) _
set_option maxHeartbeats 800000 in
theorem word_row (s : ByteArray) : RowOk (rw0 157) 157 (.agg #[.string s]) 167 := by
 refine ⟨fun W => by kernel_rfl, fun W => by kernel_rfl, fun W => ?_⟩
 go_enter Tryz.func167, Tryz.ntmps167
 go_wp2
 refine bodyPost_ret (v := .agg #[.int .i64 3, .bool false, .int .i64 (0), .int .i64 0, .int .i64 0, .slice none 0 0]) (by simp [results, Tryz.results167, go_sem]) rfl ⟨⟨_, _, rfl, ?_⟩, ?_⟩
 ·exact .inl rfl
 ·exact ((Below.refl _ _).alloc (Nat.le_refl _) _).alloc (by simp) _
set_option maxHeartbeats 800000 in
theorem block_row : RowOk (rw0 162) 162 (.agg #[]) 171 := by
 refine ⟨fun W => by kernel_rfl, fun W => by kernel_rfl, fun W => ?_⟩
 go_enter Tryz.func171, Tryz.ntmps171
 go_wp2
 refine bodyPost_ret (v := .agg #[.int .i64 4, .bool false, .int .i64 (0), .int .i64 0, .int .i64 3, .slice none 0 0]) (by simp [results, Tryz.results171, go_sem]) rfl ⟨⟨_, _, rfl, ?_⟩, ?_⟩
 ·exact .inl rfl
 ·exact ((Below.refl _ _).alloc (Nat.le_refl _) _).alloc (by simp) _
set_option maxHeartbeats 800000 in
theorem no_row : RowOk (rw0 163) 163 (.agg #[]) 172 := by
 refine ⟨fun W => by kernel_rfl, fun W => by kernel_rfl, fun W => ?_⟩
 go_enter Tryz.func172, Tryz.ntmps172
 go_wp2
 refine bodyPost_ret (v := .agg #[.int .i64 0, .bool false, .int .i64 (0), .int .i64 0, .int .i64 0, .slice none 0 0]) (by simp [results, Tryz.results172, go_sem]) rfl ⟨⟨_, _, rfl, ?_⟩, ?_⟩
 ·exact .inl rfl
 ·exact ((Below.refl _ _).alloc (Nat.le_refl _) _).alloc (by simp) _
end Go.Proofs.YtedfnadgmhjojaaGreatDoor
namespace Go.Proofs.YtedfnadgmhjojaaGreatDoor
open Go.RowKit

def typI (kind : Int) : Nat :=
 if kind = 1 then 120 else
 if kind = 2 then 122 else
 if kind = 3 then 124 else
 if kind = 4 then 123 else
 if kind = 5 then 125 else
 if kind = 6 then 128 else
 if kind = 7 then 128 else
 if kind = 8 then 128 else
 if kind = 31 then 147 else
 if kind = 32 then 148 else
 if kind = 40 then 149 else
 if kind = 11 then 130 else
 if kind = 12 then 130 else
 if kind = 13 then 130 else
 if kind = 14 then 130 else
 if kind = 15 then 130 else
 if kind = 16 then 130 else
 if kind = 21 then 152 else
 if kind = 22 then 153 else
 if kind = 23 then 154 else
 if kind = 24 then 158 else
 if kind = 25 then 159 else
 if kind = 26 then 160 else
 if kind = 27 then 155 else
 if kind = 28 then 157 else
 if kind = 29 then 157 else
 if kind = 30 then 162 else
 163
def rowI (kind : Int) : Rw := rw0 (typI kind)
def signI (kind : Int) : ByteArray :=
 if kind = 11 then ⟨#[60]⟩ else
 if kind = 12 then ⟨#[60, 61]⟩ else
 if kind = 13 then ⟨#[62]⟩ else
 if kind = 14 then ⟨#[62, 61]⟩ else
 if kind = 15 then ⟨#[61, 61]⟩ else
 if kind = 16 then ⟨#[33, 61]⟩ else
 ⟨#[]⟩

set_option maxHeartbeats 800000 in
theorem condSign_any (kind : Int) (w : World) : Calls Tryz.prog 106 #[.int .i64 kind] w fun e w' => e = .returned (.string (signI kind)) ∧ w = w' := by
 by_cases h11 : kind = 11
 ·subst h11
  go_enter Tryz.func106, Tryz.ntmps106
  go_wp2
  go_ret
  exact ⟨rfl, rfl⟩
 by_cases h12 : kind = 12
 ·subst h12
  go_enter Tryz.func106, Tryz.ntmps106
  go_wp2
  go_ret
  exact ⟨rfl, rfl⟩
 by_cases h13 : kind = 13
 ·subst h13
  go_enter Tryz.func106, Tryz.ntmps106
  go_wp2
  go_ret
  exact ⟨rfl, rfl⟩
 by_cases h14 : kind = 14
 ·subst h14
  go_enter Tryz.func106, Tryz.ntmps106
  go_wp2
  go_ret
  exact ⟨rfl, rfl⟩
 by_cases h15 : kind = 15
 ·subst h15
  go_enter Tryz.func106, Tryz.ntmps106
  go_wp2
  go_ret
  exact ⟨rfl, rfl⟩
 by_cases h16 : kind = 16
 ·subst h16
  go_enter Tryz.func106, Tryz.ntmps106
  go_wp2
  go_ret
  exact ⟨rfl, rfl⟩
 have e : signI kind = ⟨#[]⟩ := by simp [signI, h11, h12, h13, h14, h15, h16]
 rw [e]
 go_enter Tryz.func106, Tryz.ntmps106
 go_wp2
 go_ret
 exact ⟨rfl, rfl⟩

set_option maxHeartbeats 1600000 in
theorem stmtForm_any (kind : Int) (w : World) (h1 : ∀ k ∈ [1, 2, 3, 4, 5, 6, 7, 8, 31, 32, 40, 11, 12, 13, 14, 15, 16], kind ≠ k) : Calls Tryz.prog 107 #[.int .i64 kind] w fun e w' => (∃ t v f, e = .returned (.iface t v) ∧ RowOk (rowI kind) t v f) ∧ w = w' := by
 by_cases h21 : kind = 21
 ·subst h21
  clear h1
  go_enter Tryz.func107, Tryz.ntmps107
  go_wp2
  go_ret
  exact ⟨⟨_, _, _, rfl, set_row⟩, rfl⟩
 by_cases h22 : kind = 22
 ·subst h22
  clear h1
  go_enter Tryz.func107, Tryz.ntmps107
  go_wp2
  go_ret
  exact ⟨⟨_, _, _, rfl, put_row⟩, rfl⟩
 by_cases h23 : kind = 23
 ·subst h23
  clear h1
  go_enter Tryz.func107, Tryz.ntmps107
  go_wp2
  go_ret
  exact ⟨⟨_, _, _, rfl, read_row⟩, rfl⟩
 by_cases h24 : kind = 24
 ·subst h24
  clear h1
  go_enter Tryz.func107, Tryz.ntmps107
  go_wp2
  go_ret
  exact ⟨⟨_, _, _, rfl, ifs_row⟩, rfl⟩
 by_cases h25 : kind = 25
 ·subst h25
  clear h1
  go_enter Tryz.func107, Tryz.ntmps107
  go_wp2
  go_ret
  exact ⟨⟨_, _, _, rfl, while_row⟩, rfl⟩
 by_cases h26 : kind = 26
 ·subst h26
  clear h1
  go_enter Tryz.func107, Tryz.ntmps107
  go_wp2
  go_ret
  exact ⟨⟨_, _, _, rfl, fors_row⟩, rfl⟩
 by_cases h27 : kind = 27
 ·subst h27
  clear h1
  go_enter Tryz.func107, Tryz.ntmps107
  go_wp2
  go_ret
  exact ⟨⟨_, _, _, rfl, check_row⟩, rfl⟩
 by_cases h28 : kind = 28
 ·subst h28
  clear h1
  go_enter Tryz.func107, Tryz.ntmps107
  go_wp2
  go_ret
  exact ⟨⟨_, _, _, rfl, word_row _⟩, rfl⟩
 by_cases h29 : kind = 29
 ·subst h29
  clear h1
  go_enter Tryz.func107, Tryz.ntmps107
  go_wp2
  go_ret
  exact ⟨⟨_, _, _, rfl, word_row _⟩, rfl⟩
 by_cases h30 : kind = 30
 ·subst h30
  clear h1
  go_enter Tryz.func107, Tryz.ntmps107
  go_wp2
  go_ret
  exact ⟨⟨_, _, _, rfl, block_row⟩, rfl⟩
 have e : rowI kind = rw0 163 := by
  simp at h1
  simp [rowI, typI, h1, h21, h22, h23, h24, h25, h26, h27, h28, h29, h30]
 rw [e]
 clear h1 e
 go_enter Tryz.func107, Tryz.ntmps107
 go_wp2
 go_ret
 exact ⟨⟨_, _, _, rfl, no_row⟩, rfl⟩

set_option maxHeartbeats 1600000 in
theorem formOf_any (kind : Int) (w : World) : Calls Tryz.prog 73 #[.int .i64 kind] w fun e w' => (∃ t v f, e = .returned (.iface t v) ∧ RowOk (rowI kind) t v f) ∧ w = w' := by
 by_cases h1 : kind = 1
 ·subst h1
  go_enter Tryz.func73, Tryz.ntmps73
  go_wp2
  go_ret
  exact ⟨⟨_, _, _, rfl, num_row⟩, rfl⟩
 by_cases h2 : kind = 2
 ·subst h2
  go_enter Tryz.func73, Tryz.ntmps73
  go_wp2
  go_ret
  exact ⟨⟨_, _, _, rfl, var_row⟩, rfl⟩
 by_cases h3 : kind = 3
 ·subst h3
  go_enter Tryz.func73, Tryz.ntmps73
  go_wp2
  go_ret
  exact ⟨⟨_, _, _, rfl, cell_row⟩, rfl⟩
 by_cases h4 : kind = 4
 ·subst h4
  go_enter Tryz.func73, Tryz.ntmps73
  go_wp2
  go_ret
  exact ⟨⟨_, _, _, rfl, len_row⟩, rfl⟩
 by_cases h5 : kind = 5
 ·subst h5
  go_enter Tryz.func73, Tryz.ntmps73
  go_wp2
  go_ret
  exact ⟨⟨_, _, _, rfl, neg_row⟩, rfl⟩
 by_cases h6 : kind = 6
 ·subst h6
  go_enter Tryz.func73, Tryz.ntmps73
  go_wp2
  go_ret
  exact ⟨⟨_, _, _, rfl, pair_row _⟩, rfl⟩
 by_cases h7 : kind = 7
 ·subst h7
  go_enter Tryz.func73, Tryz.ntmps73
  go_wp2
  go_ret
  exact ⟨⟨_, _, _, rfl, pair_row _⟩, rfl⟩
 by_cases h8 : kind = 8
 ·subst h8
  go_enter Tryz.func73, Tryz.ntmps73
  go_wp2
  go_ret
  exact ⟨⟨_, _, _, rfl, pair_row _⟩, rfl⟩
 by_cases h31 : kind = 31
 ·subst h31
  go_enter Tryz.func73, Tryz.ntmps73
  go_wp2
  go_ret
  exact ⟨⟨_, _, _, rfl, name_row⟩, rfl⟩
 by_cases h32 : kind = 32
 ·subst h32
  go_enter Tryz.func73, Tryz.ntmps73
  go_wp2
  go_ret
  exact ⟨⟨_, _, _, rfl, array_row⟩, rfl⟩
 by_cases h40 : kind = 40
 ·subst h40
  go_enter Tryz.func73, Tryz.ntmps73
  go_wp2
  go_ret
  exact ⟨⟨_, _, _, rfl, prog_row⟩, rfl⟩
 by_cases h11 : kind = 11
 ·subst h11
  go_enter Tryz.func73, Tryz.ntmps73
  go_wp2_with fail
  refine (condSign_any 11 _).mono ?_
  rintro e w1 ⟨rfl, rfl⟩
  rw [show signI 11 = ⟨#[60]⟩ from rfl]
  go_wp2
  go_ret
  exact ⟨⟨_, _, _, rfl, cond_row _⟩, rfl⟩
 by_cases h12 : kind = 12
 ·subst h12
  go_enter Tryz.func73, Tryz.ntmps73
  go_wp2_with fail
  refine (condSign_any 12 _).mono ?_
  rintro e w1 ⟨rfl, rfl⟩
  rw [show signI 12 = ⟨#[60, 61]⟩ from rfl]
  go_wp2
  go_ret
  exact ⟨⟨_, _, _, rfl, cond_row _⟩, rfl⟩
 by_cases h13 : kind = 13
 ·subst h13
  go_enter Tryz.func73, Tryz.ntmps73
  go_wp2_with fail
  refine (condSign_any 13 _).mono ?_
  rintro e w1 ⟨rfl, rfl⟩
  rw [show signI 13 = ⟨#[62]⟩ from rfl]
  go_wp2
  go_ret
  exact ⟨⟨_, _, _, rfl, cond_row _⟩, rfl⟩
 by_cases h14 : kind = 14
 ·subst h14
  go_enter Tryz.func73, Tryz.ntmps73
  go_wp2_with fail
  refine (condSign_any 14 _).mono ?_
  rintro e w1 ⟨rfl, rfl⟩
  rw [show signI 14 = ⟨#[62, 61]⟩ from rfl]
  go_wp2
  go_ret
  exact ⟨⟨_, _, _, rfl, cond_row _⟩, rfl⟩
 by_cases h15 : kind = 15
 ·subst h15
  go_enter Tryz.func73, Tryz.ntmps73
  go_wp2_with fail
  refine (condSign_any 15 _).mono ?_
  rintro e w1 ⟨rfl, rfl⟩
  rw [show signI 15 = ⟨#[61, 61]⟩ from rfl]
  go_wp2
  go_ret
  exact ⟨⟨_, _, _, rfl, cond_row _⟩, rfl⟩
 by_cases h16 : kind = 16
 ·subst h16
  go_enter Tryz.func73, Tryz.ntmps73
  go_wp2_with fail
  refine (condSign_any 16 _).mono ?_
  rintro e w1 ⟨rfl, rfl⟩
  rw [show signI 16 = ⟨#[33, 61]⟩ from rfl]
  go_wp2
  go_ret
  exact ⟨⟨_, _, _, rfl, cond_row _⟩, rfl⟩
 have e : signI kind = ⟨#[]⟩ := by simp [signI, h11, h12, h13, h14, h15, h16]
 have HA := mkHid (show ∀ k ∈ [1, 2, 3, 4, 5, 6, 7, 8, 31, 32, 40, 11, 12, 13, 14, 15, 16], kind ≠ k by intro k hk; simp at hk; omega)
 go_enter Tryz.func73, Tryz.ntmps73
 go_wp2_with fail
 refine (condSign_any kind _).mono ?_
 rintro e1 w1 ⟨rfl, rfl⟩
 rw [e]
 go_wp2_with fail
 refine (stmtForm_any kind _ HA.out).mono ?_
 rintro e w1 ⟨⟨t, v, f, rfl, hf⟩, rfl⟩
 have HF := mkHid hf
 clear hf
 go_wp2
 go_ret
 exact ⟨⟨_, _, _, rfl, HF.out⟩, rfl⟩
end Go.Proofs.YtedfnadgmhjojaaGreatDoor
