/-
  CONTRACTS of eqNode and eqNodeS where both hold the same trees.
-/
import Derived.Test.YtpikgigfeifliaaDoorCopyb
namespace Go.Proofs.YtpikgigfeifliaaDoor
open Go.RowKit

def EqOk (t : T) : Prop := match t with
  | .node k s m kk => ∀ (a a' : Option Addr) (c c' : Nat) (w : World), kk.length ≤ maxLen → Kids w 0 a kk → Kids w 0 a' kk →
    Calls Tryd.prog 35 #[.agg #[.int .i64 k, .string s, .int .i64 m, .slice a kk.length c], .agg #[.int .i64 k, .string s, .int .i64 m, .slice a' kk.length c']] w fun e w' => e = .returned (.bool true) ∧ Below w.heap.size w w'

set_option maxHeartbeats 800000 in
theorem eqNodeS_of (kk : List T) (IH : ∀ t ∈ kk, EqOk t) (b off c b' off' c' : Nat) (w : World) (hn : kk.length ≤ maxLen) (hl : LiesL w 0 kk b off) (hl' : LiesL w 0 kk b' off') :
    Calls Tryd.prog 42 #[.slice (some ⟨b, off, none⟩) kk.length c, .slice (some ⟨b', off', none⟩) kk.length c'] w fun e w' => e = .returned (.bool true) ∧ Below w.heap.size w w' := by
  unfold maxLen at hn
  have HL := mkHid hl
  have HL' := mkHid hl'
  have HI := mkHid IH
  clear hl hl' IH
  go_enter Tryd.func42, Tryd.ntmps42
  go_wp2
  go_loopw [5] (fun i w' => ∃ (k : Nat), k ≤ kk.length ∧ i = .int .i64 k ∧ Below w.heap.size w w') (fun i _ => kk.length - (intOf i).toNat)
  case atStart => exact ⟨0, Nat.zero_le _, rfl, Below.refl _ _⟩
  case round =>
    obtain ⟨k, hk, rfl, hbel⟩ := hrel
    have HB := mkHid hbel
    clear hbel
    by_cases hlt : k < kk.length
    · obtain ⟨x, hx⟩ : ∃ x, kk[k]? = some x := ⟨_, List.getElem?_eq_getElem hlt⟩
      obtain ⟨xk, xs, xm, xkk⟩ := x
      obtain ⟨xa, xc, hc0, hc1, hc2, hc3, hs, hkn, hkids⟩ := (HL.out.below (Nat.zero_le _) HB.out).at hx
      obtain ⟨ya, yc, hd0, hd1, hd2, hd3, _, _, hkids'⟩ := (HL'.out.below (Nat.zero_le _) HB.out).at hx
      have HE := mkHid (HI.out _ (List.mem_of_getElem? hx))
      have HK := mkHid hkids
      have HK' := mkHid hkids'
      have HKN := mkHid hkn
      clear hx hs hkids hkids' hkn
      have hlb : b < wr.heap.size := World.block_lt_of_cell? wr _ hc0
      have hlb' : b' < wr.heap.size := World.block_lt_of_cell? wr _ hd0
      have i0 : (0 : Int) ≤ (k : Int) := by omega
      have i1 : (k : Int) < (kk.length : Int) := by omega
      go_wp2
      go_region_held3 (fun w' => w'.cell? ⟨b, off + k * 4, none⟩ = some (.int .i64 xk) ∧ w'.cell? ⟨b, off + k * 4 + 1, none⟩ = some (.string xs) ∧ w'.cell? ⟨b, off + k * 4 + 2, none⟩ = some (.int .i64 xm) ∧ w'.cell? ⟨b, off + k * 4 + 3, none⟩ = some (.slice xa xkk.length xc) ∧ w'.cell? ⟨b', off' + k * 4, none⟩ = some (.int .i64 xk) ∧ w'.cell? ⟨b', off' + k * 4 + 1, none⟩ = some (.string xs) ∧ w'.cell? ⟨b', off' + k * 4 + 2, none⟩ = some (.int .i64 xm) ∧ w'.cell? ⟨b', off' + k * 4 + 3, none⟩ = some (.slice ya xkk.length yc)) (first | exact ⟨hc0, hc1, hc2, hc3, hd0, hd1, hd2, hd3⟩ | exact ⟨(hc _ _ hlb).trans hc0, (hc _ _ hlb).trans hc1, (hc _ _ hlb).trans hc2, (hc _ _ hlb).trans hc3, (hc _ _ hlb').trans hd0, (hc _ _ hlb').trans hd1, (hc _ _ hlb').trans hd2, (hc _ _ hlb').trans hd3⟩)
        (first | (go_at_call 35; refine (HE.out xa ya xc yc _ HKN.out (HK.out.below (Below.refl _ _).drew) (HK'.out.below (Below.refl _ _).drew)).mono ?_; rintro e w1 ⟨rfl, hb1⟩; obtain ⟨hc, hf⟩ := bcell hb1))
      have HB1 : Hid (Below w.heap.size w w1) := HB.out.drew.trans (hb1.mono HB.out.drew.size)
      clear hb1 hc hf
      go_wp2
      go_roundw
      case rel => exact ⟨k + 1, by omega, by go_num, HB1.out⟩
      case measure => simp [intOf]; omega
    · go_wp2
      go_ret
      exact ⟨rfl, HB.out⟩

set_option maxHeartbeats 400000 in
theorem eqNodeS_nil (a a' : Option Addr) (c c' : Nat) (w : World) : Calls Tryd.prog 42 #[.slice a 0 c, .slice a' 0 c'] w fun e w' => e = .returned (.bool true) ∧ Below w.heap.size w w' := by
  go_enter Tryd.func42, Tryd.ntmps42
  go_wp2
  go_loopw [5] (fun i w' => i = .int .i64 0 ∧ w' = w) (fun i _ => 0)
  case atStart => exact ⟨rfl, rfl⟩
  case round =>
    obtain ⟨rfl, rfl⟩ := hrel
    go_wp2
    go_ret
    exact ⟨rfl, Below.refl _ _⟩
theorem eqNodeS_kids (kk : List T) (IH : ∀ t ∈ kk, EqOk t) (a a' : Option Addr) (c c' : Nat) (w : World) (hn : kk.length ≤ maxLen) (hl : Kids w 0 a kk) (hl' : Kids w 0 a' kk) :
    Calls Tryd.prog 42 #[.slice a kk.length c, .slice a' kk.length c'] w fun e w' => e = .returned (.bool true) ∧ Below w.heap.size w w' := by
  rcases hl with rfl | ⟨b, o, rfl, _, hl⟩
  · exact eqNodeS_nil a a' c c' w
  · rcases hl' with rfl | ⟨b', o', rfl, _, hl'⟩
    · exact eqNodeS_nil _ a' c c' w
    · exact eqNodeS_of kk IH b o c b' o' c' w hn hl hl'

set_option maxHeartbeats 800000 in
theorem eqNode_ok (t : T) : EqOk t := by
  refine T.induct ?_ t
  intro k s m kk IH a a' c c' w hn hk hk'
  have HN := mkHid hn
  have HI := mkHid IH
  have HK := mkHid hk
  have HK' := mkHid hk'
  clear hn IH hk hk'
  go_enter Tryd.func35, Tryd.ntmps35
  go_wp2_with fail
  refine (eqNodeS_kids kk HI.out a a' c c' _ HN.out (HK.out.below (((Below.refl w.heap.size w).alloc (Nat.le_refl _) _).alloc (by simp) _)) (HK'.out.below (((Below.refl w.heap.size w).alloc (Nat.le_refl _) _).alloc (by simp) _))).mono ?_
  rintro e w1 ⟨rfl, hb1⟩
  have HB := mkHid (below_step (((Below.refl w.heap.size w).alloc (Nat.le_refl _) _).alloc (by simp) _) hb1)
  clear hb1
  go_wp2
  go_ret
  exact ⟨rfl, HB.out⟩
end Go.Proofs.YtpikgigfeifliaaDoor
