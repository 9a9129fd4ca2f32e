/-
  CONTRACTS of szNode and szNodeS: what is left of a number, by the tree's bulk.
-/
import Derived.Test.YtpikgigfeifliaaDoorTree
namespace Go.Proofs.YtpikgigfeifliaaDoor
open Go.RowKit

def SzOk (t : T) : Prop := match t with
  | .node k s m kk => ∀ (a : Option Addr) (c : Nat) (n : Int) (w : World), s.size ≤ maxLen → kk.length ≤ maxLen → Kids w 0 a kk → 0 ≤ n → n ≤ 1048576 →
    Calls Tryd.prog 30 #[.agg #[.int .i64 k, .string s, .int .i64 m, .slice a kk.length c], .int .i64 n] w fun e w' =>
      (∃ r : Int, e = .returned (.int .i64 r) ∧ (r < 0 ∨ 0 ≤ r ∧ r + bulk t = n)) ∧ Below w.heap.size w w'

set_option maxHeartbeats 400000 in
theorem szNodeS_of (kk : List T) (IH : ∀ t ∈ kk, SzOk t) (b off c : Nat) (n : Int) (w : World) (hn : kk.length ≤ maxLen) (hl : LiesL w 0 kk b off) (h0 : 0 ≤ n) (h1 : n ≤ 1048576) :
    Calls Tryd.prog 36 #[.slice (some ⟨b, off, none⟩) kk.length c, .int .i64 n] w fun e w' =>
      (∃ r : Int, e = .returned (.int .i64 r) ∧ (r < 0 ∨ 0 ≤ r ∧ r + kk.length + bulks kk = n)) ∧ Below w.heap.size w w' := by
  unfold maxLen at hn
  have HL := mkHid hl
  have HI := mkHid IH
  clear hl IH
  by_cases h : n - (kk.length : Int) < 0
  · go_enter Tryd.func36, Tryd.ntmps36
    go_wp2
    go_ret
    exact ⟨⟨_, rfl, .inl (by decide)⟩, Below.refl _ _⟩
  · go_enter Tryd.func36, Tryd.ntmps36
    go_wp2
    go_loopw [1, 5] (fun l i w' => ∃ (k : Nat) (r : Int), k ≤ kk.length ∧ i = .int .i64 k ∧ l = .int .i64 r ∧ 0 ≤ r ∧ r + kk.length + bulks (kk.take k) = n ∧ Below w.heap.size w w') (fun _ i _ => kk.length - (intOf i).toNat)
    case atStart => exact ⟨0, _, Nat.zero_le _, rfl, rfl, by omega, by simp [bulks], Below.refl _ _⟩
    case round =>
      obtain ⟨k, r, hk, rfl, rfl, hr0, hr1, hbel⟩ := hrel
      have HB := mkHid hbel
      have HR := mkHid hr1
      have hrn : r ≤ 1048576 := by omega
      clear hbel hr1
      by_cases hlt : k < kk.length
      · obtain ⟨x, hx⟩ : ∃ x, kk[k]? = some x := ⟨_, List.getElem?_eq_getElem hlt⟩
        have HX := mkHid hx
        obtain ⟨xk, xs, xm, xkk⟩ := x
        obtain ⟨xa, xc, hc0, hc1, hc2, hc3, hs, hkn, hkids⟩ := (HL.out.below (Nat.zero_le _) HB.out).at hx
        have HC := mkHid (HI.out _ (List.mem_of_getElem? hx) xa xc r wr hs hkn hkids hr0 hrn)
        clear hx hs hkn hkids
        go_wp2_with fail
        refine HC.out.mono ?_
        rintro e w1 ⟨⟨m1, rfl, hm⟩, hb1⟩
        have HB1 := mkHid (HB.out.trans (hb1.mono HB.out.size))
        have HM := mkHid hm
        clear hb1 hm HC
        by_cases hneg : m1 < 0
        · go_wp2
          go_ret
          exact ⟨⟨_, rfl, .inl (by decide)⟩, HB1.out⟩
        · go_wp2
          go_roundw
          case rel =>
            have h2 := HM.out
            have h3 := HR.out
            have h4 := bulks_take HX.out
            exact ⟨k + 1, m1, by omega, by go_num, rfl, by omega, by omega, HB1.out⟩
          case measure => simp [intOf]; omega
      · go_wp2
        go_ret
        have h3 := HR.out
        rw [List.take_of_length_le (by omega)] at h3
        exact ⟨⟨_, rfl, .inr ⟨hr0, h3⟩⟩, HB.out⟩

set_option maxHeartbeats 400000 in
theorem szNodeS_nil (a : Option Addr) (c : Nat) (n : Int) (w : World) (h0 : 0 ≤ n) (h1 : n ≤ 1048576) :
    Calls Tryd.prog 36 #[.slice a 0 c, .int .i64 n] w fun e w' => (∃ r : Int, e = .returned (.int .i64 r) ∧ (r < 0 ∨ 0 ≤ r ∧ r = n)) ∧ Below w.heap.size w w' := by
  go_enter Tryd.func36, Tryd.ntmps36
  go_wp2
  go_loopw [1, 5] (fun l i w' => i = .int .i64 0 ∧ l = .int .i64 n ∧ w' = w) (fun _ i _ => 0)
  case atStart => exact ⟨rfl, by go_num, rfl⟩
  case round =>
    obtain ⟨rfl, rfl, rfl⟩ := hrel
    go_wp2
    go_ret
    exact ⟨⟨_, rfl, .inr ⟨h0, rfl⟩⟩, Below.refl _ _⟩

theorem szNodeS_kids (kk : List T) (IH : ∀ t ∈ kk, SzOk t) (a : Option Addr) (c : Nat) (n : Int) (w : World) (hn : kk.length ≤ maxLen) (hl : Kids w 0 a kk) (h0 : 0 ≤ n) (h1 : n ≤ 1048576) :
    Calls Tryd.prog 36 #[.slice a kk.length c, .int .i64 n] w fun e w' =>
      (∃ r : Int, e = .returned (.int .i64 r) ∧ (r < 0 ∨ 0 ≤ r ∧ r + kk.length + bulks kk = n)) ∧ Below w.heap.size w w' := by
  rcases hl with rfl | ⟨b, o, rfl, _, hl⟩
  · refine (szNodeS_nil a c n w h0 h1).mono ?_
    rintro e w' ⟨⟨r, rfl, h⟩, hb⟩
    exact ⟨⟨r, rfl, by simpa [bulks] using h⟩, hb⟩
  · exact szNodeS_of kk IH b o c n w hn hl h0 h1

set_option maxHeartbeats 400000 in
theorem szNode_ok (t : T) : SzOk t := by
  refine T.induct ?_ t
  intro k s m kk IH a c n w hs hn hk h0 h1
  unfold maxLen at hs
  have HN := mkHid hn
  have HI := mkHid IH
  have HK := mkHid hk
  clear hn IH hk
  by_cases h : n - (s.size : Int) < 0
  · go_enter Tryd.func30, Tryd.ntmps30
    go_wp2
    go_ret
    exact ⟨⟨_, rfl, .inl (by decide)⟩, (Below.refl _ _).alloc (Nat.le_refl _) _⟩
  · go_enter Tryd.func30, Tryd.ntmps30
    go_wp2_with fail
    refine (szNodeS_kids kk HI.out a c _ _ HN.out (HK.out.below ((Below.refl _ _).alloc (Nat.le_refl _) _)) (by omega) (by omega)).mono ?_
    rintro e w1 ⟨⟨m1, rfl, hm⟩, hb1⟩
    have HB1 := mkHid (below_step ((Below.refl _ _).alloc (Nat.le_refl _) _) hb1)
    have HM := mkHid hm
    clear hb1 hm
    by_cases hneg : m1 < 0
    · go_wp2
      go_ret
      exact ⟨⟨_, rfl, .inl (by decide)⟩, HB1.out⟩
    · go_wp2
      go_ret
      have := HM.out
      refine ⟨⟨_, rfl, .inr ⟨by omega, ?_⟩⟩, HB1.out⟩
      unfold bulk
      omega
end Go.Proofs.YtpikgigfeifliaaDoor
