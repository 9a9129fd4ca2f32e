/-
  CONTRACTS of eqEdge, eqEdgeS, eqGraph where both hold the same graph.
-/
import Derived.Test.YtpikgigfeifliaaDoorGcq
namespace Go.Proofs.YtpikgigfeifliaaDoor
open Go.RowKit

set_option maxHeartbeats 800000 in
theorem eqEdge_ok (f t k : Int) (y : Bool) (nk : Int) (s : ByteArray) (m : Int) (kk : List T) (a a' : Option Addr) (c c' : Nat) (w : World) (hn : kk.length ≤ maxLen) (hk : Kids w 0 a kk) (hk' : Kids w 0 a' kk) :
    Calls Tryd.prog 29 #[.agg #[.int .i64 f, .int .i64 t, .int .i64 k, .bool y, .int .i64 nk, .string s, .int .i64 m, .slice a kk.length c], .agg #[.int .i64 f, .int .i64 t, .int .i64 k, .bool y, .int .i64 nk, .string s, .int .i64 m, .slice a' kk.length c']] w fun e w' => e = .returned (.bool true) ∧ Below w.heap.size w w' := by
  have HN := mkHid hn
  have HK := mkHid hk
  have HK' := mkHid hk'
  clear hn hk hk'
  have hy : (y != y) = false := by simp
  go_enter Tryd.func29, Tryd.ntmps29
  go_wp2_with fail
  refine (eqNode_ok (.node nk s m kk) a a' c c' _ HN.out (HK.out.below (((Below.refl w.heap.size w).alloc (Nat.le_refl _) _).alloc (by simp) _)) (HK'.out.below (((Below.refl w.heap.size w).alloc (Nat.le_refl _) _).alloc (by simp) _))).mono ?_
  rintro e w1 ⟨rfl, hb1⟩
  have HB := mkHid (below_step (((Below.refl w.heap.size w).alloc (Nat.le_refl _) _).alloc (by simp) _) hb1)
  clear hb1
  go_wp2
  go_ret
  exact ⟨rfl, HB.out⟩

set_option maxHeartbeats 1600000 in
theorem eqEdgeS_of (es : List Ed) (b off c b' off' c' : Nat) (w : World) (hn : es.length ≤ maxLen) (hl : LiesG w 0 es b off) (hl' : LiesG w 0 es b' off') :
    Calls Tryd.prog 21 #[.slice (some ⟨b, off, none⟩) es.length c, .slice (some ⟨b', off', none⟩) es.length c'] w fun e w' => e = .returned (.bool true) ∧ Below w.heap.size w w' := by
  unfold maxLen at hn
  have HL := mkHid hl
  have HL' := mkHid hl'
  clear hl hl'
  go_enter Tryd.func21, Tryd.ntmps21
  go_wp2
  go_loopw [5] (fun i w' => ∃ (k : Nat), k ≤ es.length ∧ i = .int .i64 k ∧ Below w.heap.size w w') (fun i _ => es.length - (intOf i).toNat)
  case atStart => exact ⟨0, Nat.zero_le _, rfl, Below.refl _ _⟩
  case round =>
    obtain ⟨k, hk, rfl, hbel⟩ := hrel
    have HB := mkHid hbel
    clear hbel
    by_cases hlt : k < es.length
    · obtain ⟨x, hx⟩ : ∃ x, es[k]? = some x := ⟨_, List.getElem?_eq_getElem hlt⟩
      obtain ⟨xf, xt, xe, xy, ⟨xk, xs, xm, xkk⟩⟩ := x
      obtain ⟨xa, xc, hc0, hc1, hc2, hc3, hc4, hc5, hc6, hc7, hs, hkn, hkids⟩ := (HL.out.below (Nat.zero_le _) HB.out).at hx
      obtain ⟨ya, yc, hd0, hd1, hd2, hd3, hd4, hd5, hd6, hd7, _, _, hkids'⟩ := (HL'.out.below (Nat.zero_le _) HB.out).at hx
      have HK := mkHid hkids
      have HK' := mkHid hkids'
      have HKN := mkHid hkn
      clear hx hs hkids hkids' hkn
      have hlb : b < wr.heap.size := World.block_lt_of_cell? wr _ hc0
      have hlb' : b' < wr.heap.size := World.block_lt_of_cell? wr _ hd0
      have i0 : (0 : Int) ≤ (k : Int) := by omega
      have i1 : (k : Int) < (es.length : Int) := by omega
      go_wp2
      go_region_held3 (fun w' => w'.cell? ⟨b, off + k * 8, none⟩ = some (.int .i64 xf) ∧ w'.cell? ⟨b, off + k * 8 + 1, none⟩ = some (.int .i64 xt) ∧ w'.cell? ⟨b, off + k * 8 + 2, none⟩ = some (.int .i64 xe) ∧ w'.cell? ⟨b, off + k * 8 + 3, none⟩ = some (.bool xy) ∧ w'.cell? ⟨b, off + k * 8 + 4, none⟩ = some (.int .i64 xk) ∧ w'.cell? ⟨b, off + k * 8 + 5, none⟩ = some (.string xs) ∧ w'.cell? ⟨b, off + k * 8 + 6, none⟩ = some (.int .i64 xm) ∧ w'.cell? ⟨b, off + k * 8 + 7, none⟩ = some (.slice xa xkk.length xc) ∧ w'.cell? ⟨b', off' + k * 8, none⟩ = some (.int .i64 xf) ∧ w'.cell? ⟨b', off' + k * 8 + 1, none⟩ = some (.int .i64 xt) ∧ w'.cell? ⟨b', off' + k * 8 + 2, none⟩ = some (.int .i64 xe) ∧ w'.cell? ⟨b', off' + k * 8 + 3, none⟩ = some (.bool xy) ∧ w'.cell? ⟨b', off' + k * 8 + 4, none⟩ = some (.int .i64 xk) ∧ w'.cell? ⟨b', off' + k * 8 + 5, none⟩ = some (.string xs) ∧ w'.cell? ⟨b', off' + k * 8 + 6, none⟩ = some (.int .i64 xm) ∧ w'.cell? ⟨b', off' + k * 8 + 7, none⟩ = some (.slice ya xkk.length yc))
        (first | exact ⟨hc0, hc1, hc2, hc3, hc4, hc5, hc6, hc7, hd0, hd1, hd2, hd3, hd4, hd5, hd6, hd7⟩ | exact ⟨(hc _ _ hlb).trans hc0, (hc _ _ hlb).trans hc1, (hc _ _ hlb).trans hc2, (hc _ _ hlb).trans hc3, (hc _ _ hlb).trans hc4, (hc _ _ hlb).trans hc5, (hc _ _ hlb).trans hc6, (hc _ _ hlb).trans hc7, (hc _ _ hlb').trans hd0, (hc _ _ hlb').trans hd1, (hc _ _ hlb').trans hd2, (hc _ _ hlb').trans hd3, (hc _ _ hlb').trans hd4, (hc _ _ hlb').trans hd5, (hc _ _ hlb').trans hd6, (hc _ _ hlb').trans hd7⟩)
        ((go_at_call 29; refine (eqEdge_ok xf xt xe xy xk xs xm xkk xa ya xc yc _ HKN.out (HK.out.below (Below.refl _ _).drew) (HK'.out.below (Below.refl _ _).drew)).mono ?_; rintro e w1 ⟨rfl, hb1⟩; obtain ⟨hc, hf⟩ := bcell hb1))
      have HB1 : Hid (Below w.heap.size w w1) := HB.out.drew.trans (hb1.mono HB.out.drew.size)
      clear hb1 hc hf
      go_wp2
      go_roundw
      case rel => exact ⟨k + 1, by omega, by go_num, HB1.out⟩
      case measure => simp [intOf]; omega
    · go_wp2
      go_ret
      exact ⟨rfl, HB.out⟩

set_option maxHeartbeats 400000 in
theorem eqEdgeS_nil (a a' : Option Addr) (c c' : Nat) (w : World) : Calls Tryd.prog 21 #[.slice a 0 c, .slice a' 0 c'] w fun e w' => e = .returned (.bool true) ∧ Below w.heap.size w w' := by
  go_enter Tryd.func21, Tryd.ntmps21
  go_wp2
  go_loopw [5] (fun i w' => i = .int .i64 0 ∧ w' = w) (fun i _ => 0)
  case atStart => exact ⟨rfl, rfl⟩
  case round =>
    obtain ⟨rfl, rfl⟩ := hrel
    go_wp2
    go_ret
    exact ⟨rfl, Below.refl _ _⟩
theorem eqEdgeS_kids (es : List Ed) (a a' : Option Addr) (c c' : Nat) (w : World) (hn : es.length ≤ maxLen) (hl : KidsG w 0 a es) (hl' : KidsG w 0 a' es) :
    Calls Tryd.prog 21 #[.slice a es.length c, .slice a' es.length c'] w fun e w' => e = .returned (.bool true) ∧ Below w.heap.size w w' := by
  rcases hl with rfl | ⟨b, o, rfl, _, hl⟩
  · exact eqEdgeS_nil a a' c c' w
  · rcases hl' with rfl | ⟨b', o', rfl, _, hl'⟩
    · exact eqEdgeS_nil _ a' c c' w
    · exact eqEdgeS_of es b o c b' o' c' w hn hl hl'

set_option maxHeartbeats 800000 in
theorem eqGraph_ok (p : Int) (es : List Ed) (a a' : Option Addr) (c c' : Nat) (w : World) (hn : es.length ≤ maxLen) (hk : KidsG w 0 a es) (hk' : KidsG w 0 a' es) :
    Calls Tryd.prog 8 #[.agg #[.int .i64 p, .slice a es.length c], .agg #[.int .i64 p, .slice a' es.length c']] w fun e w' => e = .returned (.bool true) ∧ Below w.heap.size w w' := by
  have HN := mkHid hn
  have HK := mkHid hk
  have HK' := mkHid hk'
  clear hn hk hk'
  go_enter Tryd.func8, Tryd.ntmps8
  go_wp2_with fail
  refine (eqEdgeS_kids es a a' c c' _ HN.out (HK.out.below (((Below.refl w.heap.size w).alloc (Nat.le_refl _) _).alloc (by simp) _)) (HK'.out.below (((Below.refl w.heap.size w).alloc (Nat.le_refl _) _).alloc (by simp) _))).mono ?_
  rintro e w1 ⟨rfl, hb1⟩
  have HB := mkHid (below_step (((Below.refl w.heap.size w).alloc (Nat.le_refl _) _).alloc (by simp) _) hb1)
  clear hb1
  go_wp2
  go_ret
  exact ⟨rfl, HB.out⟩
end Go.Proofs.YtpikgigfeifliaaDoor
