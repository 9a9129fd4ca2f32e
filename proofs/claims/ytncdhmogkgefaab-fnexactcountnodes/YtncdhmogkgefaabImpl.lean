/-
  CONTRACTS of the program's CountNodes and DepthOf.
-/
import Derived.Test.YtncdhmogkgefaabWidths
namespace Go.Proofs.Ytncdhmogkgefaab
open Go.RowKit

theorem sum_take {ws : List Nat} {i x : Nat} (h : ws[i]? = some x) : (ws.take (i + 1)).sum = (ws.take i).sum + x := by
  rw [List.take_add_one, h]
  simp
theorem sum_take_le (ws : List Nat) (i : Nat) : (ws.take i).sum ≤ ws.sum := by
  have := List.sum_append (l₁ := ws.take i) (l₂ := ws.drop i)
  rw [List.take_append_drop] at this
  omega

set_option maxHeartbeats 800000 in
theorem iDepth_ok (k : Int) (s : ByteArray) (m : Int) (kk : List T) (a : Option Addr) (c : Nat) (w : World) (hs : s.size ≤ maxLen) (hn : kk.length ≤ maxLen) (hc : cnt (.node k s m kk) ≤ 1048577) (hk : Kids w 0 a kk) :
    Calls Try.prog 11 #[.agg #[.int .i64 k, .string s, .int .i64 m, .slice a kk.length c]] w fun e w' => e = .returned (.int .i64 (dep (.node k s m kk))) ∧ Below w.heap.size w w' := by
  have H := mkHid (widths_ok k s m kk a c (w.alloc (.cells #[.int .i64 k, .string s, .int .i64 m, .slice a kk.length c] 29)) hs hn hc (hk.below ((Below.refl _ _).alloc (Nat.le_refl _) _)))
  have A0 := mkHid ((Below.refl w.heap.size w).alloc (Nat.le_refl _) (.cells #[.int .i64 k, .string s, .int .i64 m, .slice a kk.length c] 29))
  have HD := Nat.le_trans (dep_le (.node k s m kk)) hc
  clear hs hn hc hk
  go_enter Try.func11, Try.ntmps11
  go_wp2_with fail
  refine H.out.mono ?_
  rintro e w1 ⟨⟨v, ws, rfl, ho, _, hl⟩, hb1⟩
  have HB := mkHid (below_step A0.out hb1)
  rw [← hl] at HD
  have HE := mkHid hl
  rcases ho.2 with ⟨rfl, h0⟩ | ⟨g, cap, cur, rfl, _⟩
  · clear ho hl hb1
    go_wp2
    go_ret
    exact ⟨by rw [← HE.out, h0]; rfl, HB.out⟩
  · clear ho hl hb1
    go_wp2
    go_ret
    exact ⟨by rw [← HE.out]; rfl, HB.out⟩

set_option maxHeartbeats 800000 in
theorem iCount_ok (k : Int) (s : ByteArray) (m : Int) (kk : List T) (a : Option Addr) (c : Nat) (w : World) (hs : s.size ≤ maxLen) (hn : kk.length ≤ maxLen) (hc : cnt (.node k s m kk) ≤ 1048577) (hk : Kids w 0 a kk) :
    Calls Try.prog 8 #[.agg #[.int .i64 k, .string s, .int .i64 m, .slice a kk.length c]] w fun e w' => e = .returned (.int .i64 (cnt (.node k s m kk))) ∧ Below w.heap.size w w' := by
  have H := mkHid (widths_ok k s m kk a c (w.alloc (.cells #[.int .i64 k, .string s, .int .i64 m, .slice a kk.length c] 29)) hs hn hc (hk.below ((Below.refl _ _).alloc (Nat.le_refl _) _)))
  have A0 := mkHid ((Below.refl w.heap.size w).alloc (Nat.le_refl _) (.cells #[.int .i64 k, .string s, .int .i64 m, .slice a kk.length c] 29))
  have HD := Nat.le_trans (dep_le (.node k s m kk)) hc
  clear hs hn hk
  go_enter Try.func8, Try.ntmps8
  go_wp2_with fail
  refine H.out.mono ?_
  rintro e w1 ⟨⟨v, ws, rfl, ho, hsum, hl⟩, hb1⟩
  have HB := mkHid (below_step A0.out hb1)
  have hv : ∃ va vc, v = .slice va ws.length vc ∧ (ws.length = 0 ∨ ∃ g, va = some ⟨g, 0, none⟩) := by
    rcases ho.2 with ⟨rfl, h0⟩ | ⟨g, cap, cur, rfl, _⟩
    · exact ⟨none, 0, by rw [h0], .inl h0⟩
    · exact ⟨_, cap, rfl, .inr ⟨g, rfl⟩⟩
  obtain ⟨va, vc, rfl, hv⟩ := hv
  rw [← hl] at HD
  rw [← hsum] at hc
  have HE := mkHid hsum
  have HO := mkHid ho
  clear ho hl hsum hb1
  go_wp2
  go_loopw [3, 9] (fun n i w' => ∃ (j : Nat), j ≤ ws.length ∧ i = .int .i64 j ∧ n = .int .i64 (ws.take j).sum ∧ w' = w1) (fun _ i _ => ws.length - (intOf i).toNat)
  case atStart => exact ⟨0, Nat.zero_le _, rfl, rfl, rfl⟩
  case round =>
    obtain ⟨j, hj, rfl, rfl, rfl⟩ := hrel
    have hle := sum_take_le ws j
    by_cases hlt : j < ws.length
    · obtain ⟨x, hx⟩ : ∃ x, ws[j]? = some x := ⟨_, List.getElem?_eq_getElem hlt⟩
      rcases hv with h0 | ⟨g, rfl⟩
      · omega
      have hcell : wr.cell? ⟨g, j, none⟩ = some (.int .i64 x) := (HO.out.cellAt j (by omega)).trans (by simp [ints, hx])
      have h1 := sum_take hx
      have h2 := sum_take_le ws (j + 1)
      have HX := mkHid h1
      clear hx h1
      have hq : ((ws.take j).sum : Int) + x ≤ 1048577 := by have := HX.out; omega
      go_wp2
      go_roundw
      case rel => exact ⟨j + 1, by omega, by go_num, by rw [HX.out]; go_num, trivial⟩
      case measure => simp [intOf]; omega
    · have e : ws.take j = ws := List.take_of_length_le (by omega)
      rw [e]
      go_wp2
      go_ret
      exact ⟨by rw [← HE.out]; rfl, HB.out⟩
end Go.Proofs.Ytncdhmogkgefaab
