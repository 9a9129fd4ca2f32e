/-
  CONTRACTS of DrawWordsText and DrawWords: some words, some text.
-/
import Derived.Test.YthaehhndfahocaaDraw
namespace Go.Proofs.Ythaehhndfahocaa
open Go.RowKit
open Pl

/-- A call that writes the cursor's block and new blocks alone. -/
theorem Cur.kept {W W' : World} {cb n cap bud : Nat} {a : Option Addr} {v : Value} {o : Obj} (h : Cur W cb a n cap bud) (hg : (W.alloc o).grownBy W' v.ownBlock) (hv : ∀ k, v.ownBlock = some k → cb < k) : Cur W' cb a n cap bud := by
  have hl := h.lt
  obtain ⟨x, seed, hh, h1, h2, h3, h4, h5⟩ := h
  have hne : ∀ b, b ≤ cb → some b ≠ v.ownBlock := fun b hb e => by have := hv b e.symm; omega
  refine ⟨x, seed, ?_, h1, h2, h3, h4, ?_⟩
  · rw [hg.block cb (by simp; omega) (hne cb (Nat.le_refl _)), Lib.alloc_old _ _ _ hl]; exact hh
  · rcases h5 with h5 | ⟨b, off, q1, q2, q3⟩
    · exact .inl h5
    · refine .inr ⟨b, off, q1, q2, fun i hi => ?_⟩
      obtain ⟨z, p0, p1, p2⟩ := q3 i hi
      exact ⟨z, p0, p1, hg.cell (by rw [World.cell?_alloc_lt _ _ _ (World.block_lt_of_cell? W _ p2)]; exact p2) (hne b (by omega))⟩
theorem owns_grown {W W' : World} {base cb : Nat} {v : Value} {ws : List W3} (h : Owns W base v ws) (hg : W.grownBy W' (some cb)) (hb : cb < base) : Owns W' base v ws :=
  World.ownsRow.kept h hg (.inr (h.off hb))
def Tiny (ws : List W3) : Prop := ∀ x ∈ ws, x.s.size ≤ 20
theorem Tiny.snoc {ws : List W3} {x : W3} (h : Tiny ws) (hx : x.s.size ≤ 20) : Tiny (ws ++ [x]) := fun y hy => by
  rw [List.mem_append, List.mem_singleton] at hy
  rcases hy with hy | rfl
  · exact h y hy
  · exact hx

def strLen : Value → Nat
  | .string s => s.size
  | _ => 0
def partStr : Value → Bool
  | .string s => decide (1 ≤ s.size ∧ s.size ≤ 20)
  | _ => false
theorem tab_cell2 {w1 w2 : World} {C : Array Value} {cb k : Nat} (hg : (w1.alloc (.cells C 9)).grownBy w2 (some cb)) (hcb : cb < w1.heap.size) (hk : k < C.size) (hall : C.toList.all partStr = true) : ∃ s, w2.cell? ⟨w1.heap.size, k, none⟩ = some (.string s) ∧ 1 ≤ s.size ∧ s.size ≤ 20 := by
  have h1 : (w1.alloc (.cells C 9)).cell? ⟨w1.heap.size, k, none⟩ = some C[k] := by rw [World.cell?_alloc_new]; exact Array.getElem?_eq_getElem hk
  have h2 := hg.cell h1 (by simp; omega)
  have h3 : partStr C[k] = true := (List.all_eq_true.1 hall) _ (by rw [← Array.getElem_toList]; exact List.getElem_mem _)
  rw [h2]
  revert h3
  cases C[k] <;> simp [partStr]
def lenOf : Value → Nat
  | .slice _ n _ => n
  | _ => 0
set_option maxHeartbeats 4000000 in
theorem drawList_any (n cap : Nat) (a : Option Addr) (w : World) (hn : n ≤ 1048576) (hb : Bytes w w.heap.size a n) :
    Calls Try.prog 8 #[.slice a n cap] w fun e w' => ∃ (v : Value) (ws : List W3), e = .returned v ∧ Owns w' w.heap.size v ws ∧ Tiny ws ∧ ws.length ≤ 2000 ∧ Below w.heap.size w w' := by
  have HB := mkHid hb
  clear hb
  obtain ⟨i0, hi, hz⟩ := Option.map_eq_some_iff.1 Try.info32
  simp only [Prod.mk.injEq] at hz
  obtain ⟨hz0, hz1, hz2⟩ := hz
  have HI := mkHid (show Try.prog.info? 32 = some i0 ∧ i0.zero = some (.agg #[.int .i64 0, .string ByteArray.empty, .int .i64 0]) ∧ i0.size = 3 ∧ i0.bytes = 32 from ⟨hi, hz0, hz1, hz2⟩)
  clear hi hz0 hz1 hz2
  go_enter Try.func8, Try.ntmps8
  go_wp2_with fail
  refine (open_any n cap a _ hn HB.out).mono ?_
  rintro e w1 ⟨rfl, hc1, hb1⟩
  have C1 := mkHid hc1
  have B1 := mkHid hb1
  have hN1 := hc1.lt
  clear hc1 hb1 HB
  go_wp2_with fail
  refine (size_any 40 w.heap.size n cap 499998 a _ (by decide) (by decide) (C1.out.alloc _)).mono ?_
  rintro e w2 ⟨r, rfl, hr0, hr1, hc2, hg2⟩
  obtain ⟨j0, rfl⟩ := Int.eq_ofNat_of_zero_le hr0
  have C2 := mkHid hc2
  have B2 : Hid (Below w.heap.size w w2) := (B1.out.alloc B1.out.size _).grown hg2 (by have := B1.out.size; simp; omega) (fun k hk => by simp at hk; omega)
  have O2 : Hid (Owns w2 (w.heap.size + 1) (.slice (some ⟨w1.heap.size, 0, none⟩) 0 0) []) := owns_fresh (by omega) (grown_at hg2 (heap_alloc_new w1 _) (by omega))
  clear hc2 hg2 C1 B1
  go_wp2
  go_loopw [4, 5] (fun o i w' => ∃ (j : Nat) (ws : List W3) (ao : Option Addr) (cp : Nat), i = .int .i64 j ∧ o = .slice ao ws.length cp ∧ ws.length + j ≤ 40 ∧ Tiny ws ∧ Owns w' (w.heap.size + 1) (.slice ao ws.length cp) ws ∧ Cur w' w.heap.size a n cap (100 + 7 * j) ∧ Below w.heap.size w w') (fun _ i _ => (intOf i).toNat)
  case atStart => exact ⟨j0, [], _, 0, rfl, rfl, by simp; omega, (fun x hx => by cases hx), O2.out, C2.out.less (by omega), B2.out⟩
  case round =>
    obtain ⟨j, ws, ao, cp, rfl, rfl, hlen, htiny, hown, hcur, hbel⟩ := hrel
    have HT := mkHid htiny
    have HO := mkHid hown
    have HC := mkHid hcur
    have HB := mkHid hbel
    clear htiny hown hcur hbel C2 B2 O2
    by_cases hj : 0 < (j : Int)
    · obtain ⟨j', rfl⟩ : ∃ j', j = j' + 1 := ⟨j - 1, by omega⟩
      go_wp2_with fail
      refine (word_any w.heap.size n cap (100 + 7 * j') a _ (HC.out.less (by omega))).mono ?_
      rintro e w3 ⟨k, s, x, rfl, hs, hc3, hg3⟩
      have C3 := mkHid hc3
      have O3 := mkHid (owns_grown HO.out hg3 (Nat.lt_succ_self _))
      have hNs := HB.out.size
      have B3 : Hid (Below w.heap.size w w3) := HB.out.grown hg3 hNs (fun k hk => by simp at hk; omega)
      have hN3 : w.heap.size < w3.heap.size := hc3.lt
      clear hc3 hg3 HC HO HB
      go_wp2_with (at_builtin; refine wpList_append_lies _ rfl _ _ 24 rfl (w.heap.size + 1) 32 i0 (.agg #[.int .i64 0, .string ByteArray.empty, .int .i64 0]) 3 32 Try.underlying24 HI.out.1 HI.out.2.1 HI.out.2.2.1 HI.out.2.2.2 rfl (by decide) _ _ _ rfl (O3.out.alloc _) ⟨w3.heap.size, 0, none⟩ 1 1 [.int .i64 k, .string s, .int .i64 x] rfl rfl ?c1 ?c2 (by decide) ?c3 ?c4 ?c5 (w3.heap.size + 1) (by simp) ?_)
      case c1 => exact three_new _ _ _ _
      case c2 => intro u hu; simp at hu; rcases hu with rfl | rfl | rfl <;> rfl
      case c3 => unfold maxLen; omega
      case c4 => omega
      case c5 => simp; omega
      intro g cp' w4 hown' hgrow _ _
      have C4 := mkHid (C3.out.kept hgrow (fun k hk => by have := (World.ownsRow.lt O3.out k hk).1; omega))
      have B4 : Hid (Below w.heap.size w w4) := (B3.out.alloc (by omega) _).grown hgrow (by simp; omega) (fun k hk => by have := (World.ownsRow.lt O3.out k hk).1; omega)
      have O4 : Hid (Owns w4 (w.heap.size + 1) (.slice (some ⟨g, 0, none⟩) (ws.length + 1) cp') (ws ++ [⟨k, s, x⟩])) := by
        show Owns _ _ _ _
        unfold Owns
        rw [← flat_snoc, List.length_append]
        exact hown'
      clear hown' hgrow C3 B3 O3
      go_wp2
      go_roundw
      case rel => exact ⟨j', ws ++ [⟨k, s, x⟩], _, _, by go_num, by rw [List.length_append]; rfl, by rw [List.length_append]; simp; omega, HT.out.snoc hs, by rw [List.length_append]; exact O4.out, C4.out, B4.out⟩
      case measure => simp [intOf] <;> omega
    · have hNs := HB.out.size
      go_wp2_with fail
      refine (once_any 20 w.heap.size n cap 99 a _ (by decide) (by decide) (HC.out.less (by omega))).mono ?_
      rintro e w3 ⟨r1, rfl, hc3, hg3⟩
      have C3 := mkHid hc3
      have O3 := mkHid (owns_grown HO.out hg3 (Nat.lt_succ_self _))
      have B3 : Hid (Below w.heap.size w w3) := HB.out.grown hg3 hNs (fun k hk => by simp at hk; omega)
      clear hc3 hg3 HC HO HB
      cases r1 with
      | false =>
        go_wp2
        go_ret
        exact ⟨_, ws, rfl, O3.out.mono (Nat.le_succ _), HT.out, by omega, B3.out⟩
      | true =>
        go_wp2_with fail
        refine (pick_any 2 w.heap.size n cap 98 a _ (by decide) C3.out).mono ?_
        rintro e w4 ⟨r2, rfl, hr0, hr1, hc4, hg4⟩
        have hr2 : r2 < 2 := by omega
        have hNs3 := B3.out.size
        have O4 := mkHid (owns_grown O3.out hg4 (Nat.lt_succ_self _))
        have B4 : Hid (Below w.heap.size w w4) := B3.out.grown hg4 hNs3 (fun k hk => by simp at hk; omega)
        have hN4 : w.heap.size < w4.heap.size := hc4.lt
        have N4 := mkHid hN4
        clear hc4 hg4 C3 O3 B3 hr1 hN4 hNs3
        go_wp2
        go_loopw [4] (fun o w' => ∃ (ws : List W3) (ao : Option Addr) (cp : Nat), o = .slice ao ws.length cp ∧ ws.length ≤ 1501 ∧ Tiny ws ∧ Owns w' (w.heap.size + 1) (.slice ao ws.length cp) ws ∧ Below w.heap.size w w' ∧ w.heap.size < w'.heap.size) (fun o _ => 2000 - lenOf o)
        case atStart => exact ⟨ws, ao, cp, rfl, by omega, HT.out, O4.out, B4.out, N4.out⟩
        case round =>
          clear HT O4 B4 N4
          obtain ⟨ws, ao, cp, rfl, hlen, htiny, hown, hbel, hN⟩ := hrel
          have HT := mkHid htiny
          have HO := mkHid hown
          have HB := mkHid hbel
          clear htiny hown hbel
          by_cases hlt : (ws.length : Int) < 1500 + r2
          · go_wp2_with (at_builtin; refine wpList_append_lies _ rfl _ _ 24 rfl (w.heap.size + 1) 32 i0 (.agg #[.int .i64 0, .string ByteArray.empty, .int .i64 0]) 3 32 Try.underlying24 HI.out.1 HI.out.2.1 HI.out.2.2.1 HI.out.2.2.2 rfl (by decide) _ _ _ rfl (HO.out.alloc _) ⟨wr.heap.size, 0, none⟩ 1 1 [.int .i64 3, .string ⟨#[59]⟩, .int .i64 0] rfl rfl ?c1 ?c2 (by decide) ?c3 ?c4 ?c5 (wr.heap.size + 1) (by simp) ?_)
            case c1 => exact three_new _ _ _ _
            case c2 => intro u hu; simp at hu; rcases hu with rfl | rfl | rfl <;> rfl
            case c3 => unfold maxLen; omega
            case c4 => omega
            case c5 => simp; omega
            intro g cp' w5 hown' hgrow _ _
            have B5 : Hid (Below w.heap.size w w5) := (HB.out.alloc (by omega) _).grown hgrow (by simp; omega) (fun k hk => by have := (World.ownsRow.lt HO.out k hk).1; omega)
            have hN5 : w.heap.size < w5.heap.size := by have := hgrow.size; simp at this; omega
            have O5 : Hid (Owns w5 (w.heap.size + 1) (.slice (some ⟨g, 0, none⟩) (ws.length + 1) cp') (ws ++ [⟨3, ⟨#[59]⟩, 0⟩])) := by
              show Owns _ _ _ _
              unfold Owns
              rw [← flat_snoc, List.length_append]
              exact hown'
            clear hown' hgrow HB HO
            go_wp2
            go_roundw
            case rel => exact ⟨ws ++ [⟨3, ⟨#[59]⟩, 0⟩], _, _, by rw [List.length_append]; rfl, by rw [List.length_append]; simp; omega, HT.out.snoc (by decide), by rw [List.length_append]; exact O5.out, B5.out, hN5⟩
            case measure => simp [lenOf]; omega
          · go_wp2
            go_ret
            first | exact ⟨_, ws, rfl, HO.out.mono (Nat.le_succ _), HT.out, by omega, HB.out⟩ | exact ⟨_, rfl, ws, HO.out.mono (Nat.le_succ _), HT.out, by omega, HB.out⟩

set_option maxHeartbeats 4000000 in
theorem drawText_any (n cap : Nat) (a : Option Addr) (w : World) (hn : n ≤ 1048576) (hb : Bytes w w.heap.size a n) :
    Calls Try.prog 12 #[.slice a n cap] w fun e w' => ∃ t : ByteArray, e = .returned (.string t) ∧ t.size ≤ 100000 ∧ Below w.heap.size w w' := by
  have HB := mkHid hb
  clear hb
  go_enter Try.func12, Try.ntmps12
  go_wp2_with fail
  refine (open_any n cap a _ hn HB.out).mono ?_
  rintro e w1 ⟨rfl, hc1, hb1⟩
  have C1 := mkHid hc1
  have B1 := mkHid hb1
  clear hc1 hb1 HB
  go_wp2_with fail
  refine (size_any 60 w.heap.size n cap 499998 a _ (by decide) (by decide) C1.out).mono ?_
  rintro e w2 ⟨r, rfl, hr0, hr1, hc2, hg2⟩
  obtain ⟨j0, rfl⟩ := Int.eq_ofNat_of_zero_le hr0
  have C2 := mkHid hc2
  have B2 : Hid (Below w.heap.size w w2) := B1.out.grown hg2 B1.out.size (fun k hk => by simp at hk; omega)
  clear hc2 hg2 C1 B1
  go_wp2
  go_loopw [4, 5] (fun o i w' => ∃ (j : Nat) (t : ByteArray), i = .int .i64 j ∧ o = .string t ∧ t.size + 21 * j ≤ 2000 ∧ Cur w' w.heap.size a n cap (30000 + 3 * j) ∧ Below w.heap.size w w') (fun _ i _ => (intOf i).toNat)
  case atStart => exact ⟨j0 + 1, ⟨#[]⟩, by go_num, rfl, by simp [ByteArray.size]; omega, C2.out.less (by omega), B2.out⟩
  case round =>
    obtain ⟨j, t, rfl, rfl, hlen, hcur, hbel⟩ := hrel
    have HC := mkHid hcur
    have HB := mkHid hbel
    have hNs := hbel.size
    clear hcur hbel C2 B2
    by_cases hj : 0 < (j : Int)
    · obtain ⟨j', rfl⟩ : ∃ j', j = j' + 1 := ⟨j - 1, by omega⟩
      go_wp2_with fail
      refine (piece_any w.heap.size n cap (30000 + 3 * j' + 1) a _ (HC.out.less (by omega))).mono ?_
      rintro e w3 ⟨s, rfl, hs, hc3, hg3⟩
      have C3 := mkHid hc3
      have B3 : Hid (Below w.heap.size w w3) := HB.out.grown hg3 hNs (fun k hk => by simp at hk; omega)
      clear hc3 hg3 HC HB
      have hNs3 := B3.out.size
      have hts : (t ++ s).size = t.size + s.size := by simp
      go_wp2_with fail
      refine (once_any 5 w.heap.size n cap (30000 + 3 * j') a _ (by decide) (by decide) C3.out).mono ?_
      rintro e w4 ⟨r1, rfl, hc4, hg4⟩
      have C4 := mkHid hc4
      have B4 : Hid (Below w.heap.size w w4) := B3.out.grown hg4 hNs3 (fun k hk => by simp at hk; omega)
      clear hc4 hg4 C3 B3
      cases r1 with
      | true =>
        go_wp2
        go_roundw
        case rel => exact ⟨j', _, by go_num, rfl, by rw [hts]; omega, C4.out, B4.out⟩
        case measure => simp [intOf] <;> omega
      | false =>
        go_wp2
        go_roundw
        case rel => exact ⟨j', _, by go_num, rfl, by rw [ByteArray.size_append, hts, show (ByteArray.mk #[32]).size = 1 from rfl]; omega, C4.out, B4.out⟩
        case measure => simp [intOf] <;> omega
    · go_wp2_with fail
      refine (once_any 25 w.heap.size n cap 29000 a _ (by decide) (by decide) (HC.out.less (by omega))).mono ?_
      rintro e w3 ⟨r1, rfl, hc3, hg3⟩
      have C3 := mkHid hc3
      have B3 : Hid (Below w.heap.size w w3) := HB.out.grown hg3 hNs (fun k hk => by simp at hk; omega)
      clear hc3 hg3 HC HB
      cases r1 with
      | false =>
        go_wp2
        go_ret
        exact ⟨t, rfl, by omega, B3.out⟩
      | true =>
        have hNs3 := B3.out.size
        go_wp2_with fail
        refine (pick_any 3 w.heap.size n cap 28999 a _ (by decide) C3.out).mono ?_
        rintro e w4 ⟨r2, rfl, hr0, hr1, hc4, hg4⟩
        have hr2 : r2 < 3 := by omega
        have C4 := mkHid hc4
        have B4 : Hid (Below w.heap.size w w4) := B3.out.grown hg4 hNs3 (fun k hk => by simp at hk; omega)
        clear hc4 hg4 C3 B3 hr1 hNs3
        go_wp2
        go_loopw [4] (fun o w' => ∃ (t : ByteArray), o = .string t ∧ t.size ≤ 5000 ∧ Cur w' w.heap.size a n cap (20000 - t.size) ∧ Below w.heap.size w w') (fun o _ => 10000 - strLen o)
        case atStart => exact ⟨t, rfl, by omega, C4.out.less (by omega), B4.out⟩
        case round =>
          clear C4 B4
          obtain ⟨t, rfl, hlen, hcur, hbel⟩ := hrel
          have HC := mkHid hcur
          have HB := mkHid hbel
          have hNs := hbel.size
          have hcb := hcur.lt
          clear hcur hbel
          by_cases hlt : (t.size : Int) < 4000 - (1 + r2)
          · go_wp2_with fail
            refine (pick_any 4 w.heap.size n cap (20000 - t.size - 1) a _ (by decide) ((HC.out.less (by omega)).alloc _)).mono ?_
            rintro e w5 ⟨r, rfl, h1, h2, h3, h4⟩
            obtain ⟨k, rfl⟩ := Int.eq_ofNat_of_zero_le h1
            obtain ⟨s, hs, hz⟩ := tab_cell2 h4 hcb (show k < _ by exact (by omega : k < 4)) rfl
            have g3 : (k : Int) < 4 := by omega
            have C5 := mkHid h3
            have B5 : Hid (Below w.heap.size w w5) := (HB.out.alloc hNs _).grown h4 (by simp; omega) (fun k hk => by simp at hk; omega)
            clear h2 h3 h4 HC HB
            have hts : (t ++ s).size = t.size + s.size := by simp
            go_wp2
            go_roundw
            case rel => exact ⟨_, rfl, by rw [hts]; omega, C5.out.less (by rw [hts]; omega), B5.out⟩
            case measure => simp only [strLen, hts]; omega
          · go_wp2
            go_ret
            first | exact ⟨_, rfl, by omega, HB.out⟩ | exact ⟨t, rfl, by omega, HB.out⟩
end Go.Proofs.Ythaehhndfahocaa
