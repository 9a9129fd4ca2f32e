/-
  CONTRACT of the program's WordsText.
-/
import Derived.Test.YthaehhndfahocaaText
namespace Go.Proofs.Ythaehhndfahocaa
open Go.RowKit
open Pl

theorem builder_below {B b : Nat} {bs : List Value} {w w' : World} (h : Lib.IsBuilderF 55 5 B b bs w) (hb : Below w.heap.size w w') : Lib.IsBuilderF 55 5 B b bs w' := by
  have one : ∀ p, Lib.BuilderAtF 55 5 B b p bs w → Lib.BuilderAtF 55 5 B b p bs w' := fun p hp => by
    have hlt := hp.lt
    obtain ⟨hB, v, hbk, hown, hne⟩ := hp
    exact ⟨hB, v, (hb.block b hlt).trans hbk, hown.kept (row := none) ⟨hb.os, hb.tape, hb.output, hb.size, fun k hk _ => hb.block k hk⟩ (by cases v.ownBlock <;> simp), hne⟩
  exact h.elim (fun x => .inl (one _ x)) (fun x => .inr (one _ x))
theorem kept_at {b M : Nat} {cs : Array Value} {w w' : World} (hk : Lib.OthersKept 5 (some b) w w') (hM : w.heap[M]? = some (.cells cs 32 (0, 0))) (hne : M ≠ b) : w'.heap[M]? = some (.cells cs 32 (0, 0)) :=
  hk M _ hM (by simpa using hne) (by intro c fz h; simp at h)

set_option maxHeartbeats 1000000 in
theorem iText_any (ws : List W3) (b off cap : Nat) (w : World) (hsm : Small ws) (hl : Lies w b off ws) :
    Calls Try.prog 9 #[.slice (some ⟨b, off, none⟩) ws.length cap] w fun e w' => e = .returned (.string (textOf ws)) ∧ Below w.heap.size w w' := by
  have hn := hsm.1
  have HL := mkHid hl
  have HS := mkHid hsm.2
  clear hl hsm
  by_cases h : 1500 < (ws.length : Int)
  · have HT := mkHid (text_many (ws := ws) (by omega))
    go_enter Try.func9, Try.ntmps9
    go_wp2
    go_ret
    exact ⟨ret_str HT.out.symm, Below.refl _ _⟩
  · go_enter Try.func9, Try.ntmps9
    go_wp2
    go_loopw [11, 4, 5] (fun i _ _ w' => ∃ (k : Nat), k ≤ ws.length ∧ i = .int .i64 k ∧ Lib.IsBuilderF 55 5 w.heap.size w.heap.size (Lib.byteCells (joinN ws k)) w' ∧ (joinN ws k).length ≤ k * 1048577 ∧ (∀ j x, j < k → ws[j]? = some x → okW x = true) ∧ Below w.heap.size w w') (fun i _ _ _ => ws.length - (intOf i).toNat)
    case atStart =>
      exact ⟨0, Nat.zero_le _, rfl, .inl ⟨Nat.le_refl _, .slice none 0 0, heap_alloc_new w _, World.ownsRowF_nil _ _ _ _, by simp [Value.ownBlock]⟩, by simp [joinN], fun j x hj => by omega, (Below.refl _ _).alloc (Nat.le_refl _) _⟩
    case round =>
      obtain ⟨k, hk, rfl, hbu, hlen, hall, hbel⟩ := hrel
      have HU := mkHid hbu
      have HA := mkHid hall
      have HB := mkHid hbel
      clear hbu hall hbel
      by_cases hlt : k < ws.length
      · obtain ⟨x, hx⟩ : ∃ x, ws[k]? = some x := ⟨_, List.getElem?_eq_getElem hlt⟩
        have HX := mkHid hx
        obtain ⟨hc0, hc1, hc2⟩ := HL.out.below HB.out k x hx
        have hxs := HS.out x (List.mem_of_getElem? hx)
        clear hx
        have i0 : (0 : Int) ≤ (k : Int) := by omega
        go_wp2_with fail
        refine (iWordOk_any x.k x.s x.a _ (by unfold maxLen; omega)).mono ?_
        rintro e w1 ⟨rfl, hb1⟩
        have hN := HB.out.size
        have HB1 : Hid (Below w.heap.size w w1) := (HB.out.alloc HB.out.size _).trans (hb1.mono (by simp; omega))
        have HU1 := mkHid (builder_below (HU.out.alloc _) hb1)
        have HM : Hid (w1.heap[wr.heap.size]? = some (.cells #[.int .i64 x.k, .string x.s, .int .i64 x.a] 32 (0, 0))) :=
          (hb1.block _ (by simp)).trans (heap_alloc_new wr _)
        have HNE : Hid (w.heap.size < wr.heap.size) := by
          show _ < _
          rcases HU.out with h | h
          · exact h.lt
          · exact h.lt
        have hsz1 : w.heap.size ≤ w1.heap.size := HB1.out.size
        have hm1 : w1.cell? ⟨wr.heap.size, 1, none⟩ = some (.string x.s) := by rw [Lib.cell_of_heap HM.out]; rfl
        clear hb1 hc0 hc1 hc2
        by_cases hok : wordB x.k x.s x.a = true
        · have HA1 : Hid (∀ j y, j < k + 1 → ws[j]? = some y → okW y = true) := fun j y hj hy => by
            rcases (by omega : j < k ∨ j = k) with h | rfl
            · exact HA.out j y h hy
            · have := HX.out.symm.trans hy
              simp only [Option.some.injEq] at this
              subst this
              exact hok
          by_cases hk0 : 0 < (k : Int)
          · have HJ1 := mkHid (joinN_succ HX.out (by omega))
            go_wp2_with fail
            refine (writeByte_any w.heap.size w.heap.size _ 32 _ HU1.out (by rw [Lib.byteCells_length]; omega) hsz1).mono ?_
            rintro e w2 ⟨rfl, hu2, hb2, hk2⟩
            have HU2 := mkHid hu2
            have HM2 := mkHid (kept_at hk2 HM.out (by have := HNE.out; omega))
            have HB2 := mkHid (HB1.out.trans hb2)
            have hsz2 : w.heap.size ≤ w2.heap.size := HB2.out.size
            have hm2 : w2.cell? ⟨wr.heap.size, 1, none⟩ = some (.string x.s) := by rw [Lib.cell_of_heap HM2.out]; rfl
            clear hu2 hb2 hk2 hm1
            go_wp2_with fail
            refine (writeString_any w.heap.size w.heap.size _ x.s _ (.inr HU2.out) (by rw [List.length_append, Lib.byteCells_length]; simp; omega) hsz2).mono ?_
            rintro e w3 ⟨rfl, hu3, hb3, hk3⟩
            have HU3 := mkHid hu3
            have HB3 := mkHid (HB2.out.trans hb3)
            clear hu3 hb3 hk3 hm2
            go_wp2
            go_roundw
            case rel =>
              refine ⟨k + 1, by omega, by go_num, .inr ?_, ?_, HA1.out, HB3.out⟩
              · have := HU3.out
                rw [HJ1.out, Lib.byteCells_append, Lib.byteCells_append]
                exact this
              · rw [HJ1.out]; simp only [List.length_append, List.length_cons, List.length_nil, ← Lib.size_eq]; omega
            case measure => simp [intOf]; omega
          · have HJ1 : Hid (joinN ws (k + 1) = joinN ws k ++ x.s.data.toList) := by
              show _ = _
              have hx := HX.out
              have e : k = 0 := by omega
              subst e
              rw [joinN_zero hx]; rfl
            go_wp2_with fail
            refine (writeString_any w.heap.size w.heap.size _ x.s _ HU1.out (by rw [Lib.byteCells_length]; omega) hsz1).mono ?_
            rintro e w3 ⟨rfl, hu3, hb3, hk3⟩
            have HU3 := mkHid hu3
            have HB3 := mkHid (HB1.out.trans hb3)
            clear hu3 hb3 hk3 hm1
            go_wp2
            go_roundw
            case rel =>
              refine ⟨k + 1, by omega, by go_num, .inr ?_, ?_, HA1.out, HB3.out⟩
              · have := HU3.out
                rw [HJ1.out, Lib.byteCells_append]
                exact this
              · rw [HJ1.out]; simp only [List.length_append, ← Lib.size_eq]; omega
            case measure => simp [intOf]; omega
        · simp only [Bool.not_eq_true] at hok
          have HT := mkHid (text_bad HX.out hok)
          go_wp2
          go_ret
          exact ⟨ret_str HT.out.symm, HB1.out⟩
      · have HK : Hid (k = ws.length) := show k = ws.length by omega
        have hsz := HB.out.size
        by_cases hbig : 4000 < ((joinN ws k).length : Int)
        · have HT := mkHid (text_long (ws := ws) hk (by omega))
          go_wp2_with fail
          refine (Try.Builder_Len_f _ _ _ _ HU.out).mono ?_
          rw [Lib.byteCells_length]
          rintro e w1 ⟨rfl, hw1⟩
          subst hw1
          go_wp2
          go_ret
          exact ⟨ret_str HT.out.symm, HB.out⟩
        · have HT := mkHid (show textOf ws = ⟨(joinN ws k).toArray⟩ by
            have e := HK.out
            have ha := HA.out
            subst e
            exact text_good (by omega) ha (by omega))
          go_wp2_with fail
          refine (Try.Builder_Len_f _ _ _ _ HU.out).mono ?_
          rw [Lib.byteCells_length]
          rintro e w1 ⟨rfl, hw1⟩
          subst hw1
          go_wp2_with fail
          refine (Try.Builder_String_any_k _ _ _ _ HU.out hsz).mono ?_
          rintro e w2 ⟨rfl, _, hb2, _⟩
          have HB2 := mkHid (HB.out.trans hb2)
          clear hb2
          go_wp2
          go_ret
          exact ⟨ret_str HT.out.symm, HB2.out⟩
end Go.Proofs.Ythaehhndfahocaa
