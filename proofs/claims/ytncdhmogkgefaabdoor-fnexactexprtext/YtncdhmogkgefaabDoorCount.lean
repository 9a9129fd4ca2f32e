/-
  CONTRACTS of the specification's CountNodes and DepthOf.
-/
import Derived.Test.YtncdhmogkgefaabDoorSame
namespace Go.Proofs.YtncdhmogkgefaabDoor
open Go.RowKit

mutual
theorem cnt_le : ∀ t, cnt t ≤ 1 + bulk t
  | .node k s m kk => by
    have := cnts_le kk
    simp only [cnt, bulk]
    omega
theorem cnts_le : ∀ kk, cnts kk ≤ kk.length + bulks kk
  | [] => by simp [cnts]
  | t :: r => by
    have := cnt_le t
    have := cnts_le r
    simp only [cnts, bulks, List.length_cons]
    omega
end
mutual
theorem dep_le : ∀ t, dep t ≤ cnt t
  | .node k s m kk => by
    have := deps_le kk
    simp only [cnt, dep]
    omega
theorem deps_le : ∀ kk, deps kk ≤ cnts kk
  | [] => by simp [cnts, deps]
  | t :: r => by
    have := dep_le t
    have := deps_le r
    simp only [cnts, deps]
    omega
end
theorem cnt_mem {ks : List T} {t : T} (h : t ∈ ks) : cnt t ≤ cnts ks := by
  induction ks with
  | nil => cases h
  | cons x r ih =>
    simp only [cnts]
    rcases List.mem_cons.1 h with rfl | h
    · omega
    · have := ih h; omega
theorem cnts_take_le (ks : List T) (i : Nat) : cnts (ks.take i) ≤ cnts ks := by
  induction ks generalizing i with
  | nil => simp
  | cons x r ih => cases i <;> simp [cnts, ih]
theorem deps_take_le (ks : List T) (i : Nat) : deps (ks.take i) ≤ deps ks := by
  induction ks generalizing i with
  | nil => simp
  | cons x r ih =>
    cases i with
    | zero => simp [deps]
    | succ i =>
      simp only [List.take_succ_cons, deps]
      have := ih i
      omega

def SCount (t : T) : Prop := match t with
  | .node k s m kk => ∀ (a : Option Addr) (c : Nat) (w : World), kk.length ≤ maxLen → cnt t ≤ 1048577 → Kids w 0 a kk →
    Calls Tryd.prog 33 #[.agg #[.int .i64 k, .string s, .int .i64 m, .slice a kk.length c]] w fun e w' => e = .returned (.int .i64 (cnt t)) ∧ Below w.heap.size w w'

set_option maxHeartbeats 800000 in
theorem sCount_ok (t : T) : SCount t := by
  refine T.induct ?_ t
  intro k s m kk IH a c w hn hc hk
  have hc' : cnts kk ≤ 1048576 := by simp only [cnt] at hc; omega
  unfold maxLen at hn
  have HI := mkHid IH
  have HK := mkHid hk
  have A0 := mkHid ((Below.refl w.heap.size w).alloc (Nat.le_refl _) (.cells #[.int .i64 k, .string s, .int .i64 m, .slice a kk.length c] 29))
  clear IH hk hc
  go_enter Tryd.func33, Tryd.ntmps33
  go_wp2
  go_loopw [3, 4] (fun l i w' => ∃ (j : Nat), j ≤ kk.length ∧ i = .int .i64 j ∧ l = .int .i64 (1 + cnts (kk.take j)) ∧ Below w.heap.size w w' ∧ w'.cell? ⟨w.heap.size, 3, none⟩ = some (.slice a kk.length c)) (fun _ i _ => kk.length - (intOf i).toNat)
  case atStart => exact ⟨0, Nat.zero_le _, rfl, by simp [cnts], A0.out, by simp [go_sem]⟩
  case round =>
    obtain ⟨j, hj, rfl, rfl, hbel, hcell⟩ := hrel
    have HB := mkHid hbel
    clear hbel A0
    by_cases hlt : j < kk.length
    · obtain ⟨x, hx⟩ : ∃ x, kk[j]? = some x := ⟨_, List.getElem?_eq_getElem hlt⟩
      have HX := mkHid hx
      have hlo : cnts (kk.take j) ≤ 1048576 := Nat.le_trans (cnts_take_le kk j) hc'
      rcases HK.out with rfl | ⟨b, o, rfl, _, hl⟩
      · simp at hx
      obtain ⟨xk, xs, xm, xkk⟩ := x
      obtain ⟨xa, xc, hc0, hc1, hc2, hc3, hs, hkn, hkids⟩ := (hl.below (Nat.zero_le _) HB.out).at hx
      have HC := mkHid (fun W (hW : Below wr.heap.size wr W) => HI.out _ (List.mem_of_getElem? hx) xa xc W hkn (Nat.le_trans (cnt_mem (List.mem_of_getElem? hx)) (by omega)) (hkids.below hW))
      clear hx hs hkn hkids hl
      have hlb : b < wr.heap.size := World.block_lt_of_cell? wr _ hc0
      have hlw : w.heap.size < wr.heap.size := World.block_lt_of_cell? wr _ hcell
      have HM := mkHid (And.intro hlb hlw)
      clear hlb hlw
      go_wp2_with fail
      refine (HC.out _ (Below.refl _ _)).mono ?_
      rintro e w1 ⟨rfl, hb1⟩
      have HB1 := mkHid (HB.out.trans (hb1.mono HB.out.size))
      have hcell1 := (hb1.cell (p := ⟨w.heap.size, 3, none⟩) HM.out.2).trans hcell
      have hx3 : (1 : Int) + cnts (kk.take j) + cnt (.node xk xs xm xkk) = 1 + cnts (kk.take (j + 1)) := by have := cnts_take HX.out; omega
      have hx4 : cnts (kk.take (j + 1)) ≤ 1048576 := Nat.le_trans (cnts_take_le kk (j + 1)) hc'
      have HX3 := mkHid hx3
      clear hb1 hx3
      have hq : (1 : Int) + cnts (kk.take j) + cnt (.node xk xs xm xkk) ≤ 2000000 := by rw [HX3.out]; omega
      go_wp2
      go_roundw
      case rel => exact ⟨j + 1, by omega, by go_num, by rw [← HX3.out], HB1.out, hcell1⟩
      case measure => simp [intOf]; omega
    · go_wp2
      go_ret
      refine ⟨?_, HB.out⟩
      rw [List.take_of_length_le (by omega)]
      simp [cnt]
def SDepth (t : T) : Prop := match t with
  | .node k s m kk => ∀ (a : Option Addr) (c : Nat) (w : World), kk.length ≤ maxLen → cnt t ≤ 1048577 → Kids w 0 a kk →
    Calls Tryd.prog 34 #[.agg #[.int .i64 k, .string s, .int .i64 m, .slice a kk.length c]] w fun e w' => e = .returned (.int .i64 (dep t)) ∧ Below w.heap.size w w'

set_option maxHeartbeats 800000 in
theorem sDepth_ok (t : T) : SDepth t := by
  refine T.induct ?_ t
  intro k s m kk IH a c w hn hc hk
  have hc' : cnts kk ≤ 1048576 := by simp only [cnt] at hc; omega
  unfold maxLen at hn
  have HI := mkHid IH
  have HK := mkHid hk
  have A0 := mkHid ((Below.refl w.heap.size w).alloc (Nat.le_refl _) (.cells #[.int .i64 k, .string s, .int .i64 m, .slice a kk.length c] 29))
  clear IH hk hc
  go_enter Tryd.func34, Tryd.ntmps34
  go_wp2
  go_loopw [3, 4] (fun l i w' => ∃ (j : Nat), j ≤ kk.length ∧ i = .int .i64 j ∧ l = .int .i64 (deps (kk.take j)) ∧ Below w.heap.size w w' ∧ w'.cell? ⟨w.heap.size, 3, none⟩ = some (.slice a kk.length c)) (fun _ i _ => kk.length - (intOf i).toNat)
  case atStart => exact ⟨0, Nat.zero_le _, rfl, by simp [deps], A0.out, by simp [go_sem]⟩
  case round =>
    obtain ⟨j, hj, rfl, rfl, hbel, hcell⟩ := hrel
    have HB := mkHid hbel
    clear hbel A0
    by_cases hlt : j < kk.length
    · obtain ⟨x, hx⟩ : ∃ x, kk[j]? = some x := ⟨_, List.getElem?_eq_getElem hlt⟩
      have HX := mkHid hx
      have hlo : cnts (kk.take j) ≤ 1048576 := Nat.le_trans (cnts_take_le kk j) hc'
      rcases HK.out with rfl | ⟨b, o, rfl, _, hl⟩
      · simp at hx
      obtain ⟨xk, xs, xm, xkk⟩ := x
      obtain ⟨xa, xc, hc0, hc1, hc2, hc3, hs, hkn, hkids⟩ := (hl.below (Nat.zero_le _) HB.out).at hx
      have HC := mkHid (fun W (hW : Below wr.heap.size wr W) => HI.out _ (List.mem_of_getElem? hx) xa xc W hkn (Nat.le_trans (cnt_mem (List.mem_of_getElem? hx)) (by omega)) (hkids.below hW))
      clear hx hs hkn hkids hl
      have hlb : b < wr.heap.size := World.block_lt_of_cell? wr _ hc0
      have hlw : w.heap.size < wr.heap.size := World.block_lt_of_cell? wr _ hcell
      have HM := mkHid (And.intro hlb hlw)
      clear hlb hlw
      go_wp2_with fail
      refine (HC.out _ (Below.refl _ _)).mono ?_
      rintro e w1 ⟨rfl, hb1⟩
      have HB1 := mkHid (HB.out.trans (hb1.mono HB.out.size))
      have hcell1 := (hb1.cell (p := ⟨w.heap.size, 3, none⟩) HM.out.2).trans hcell
      have hx4 : dep (.node xk xs xm xkk) ≤ 1048577 := Nat.le_trans (dep_le _) (Nat.le_trans (cnt_mem (List.mem_of_getElem? HX.out)) (by omega))
      have hlo' : deps (kk.take j) ≤ 1048576 := Nat.le_trans (deps_take_le kk j) (Nat.le_trans (deps_le kk) hc')
      have HX3 := mkHid (deps_take HX.out)
      clear hb1
      by_cases hgt : (deps (kk.take j) : Int) < dep (.node xk xs xm xkk)
      · go_wp2
        go_roundw
        case rel => exact ⟨j + 1, by omega, by go_num, by rw [HX3.out, Nat.max_eq_right (by omega)], HB1.out, hcell1⟩
        case measure => simp [intOf]; omega
      · go_wp2
        go_roundw
        case rel => exact ⟨j + 1, by omega, by go_num, by rw [HX3.out, Nat.max_eq_left (by omega)], HB1.out, hcell1⟩
        case measure => simp [intOf]; omega
    · have hlo' : deps kk ≤ 1048576 := Nat.le_trans (deps_le kk) hc'
      have e : kk.take j = kk := List.take_of_length_le (by omega)
      rw [e]
      go_wp2
      go_ret
      refine ⟨?_, HB.out⟩
      simp [dep]
end Go.Proofs.YtncdhmogkgefaabDoor
