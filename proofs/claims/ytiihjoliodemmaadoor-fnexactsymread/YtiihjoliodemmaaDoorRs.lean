/-
  CONTRACT of the specification's RangeRead.
-/
import Derived.Test.YtiihjoliodemmaaDoorPr
namespace Go.Proofs.YtiihjoliodemmaaDoor
open Go.RowKit
open Go.Lib (occAt IsBuilder)

def retR (r : Option (Int × Int)) : Value := .tuple #[.agg #[.int .i64 (r.getD (0, 0)).1, .int .i64 (r.getD (0, 0)).2], .bool r.isSome]
theorem non_of {s : ByteArray} (h : (s.toList == [110, 111, 110, 101]) = true) : s.data.toList = nonL := by rw [← ByteArray.toList_eq]; exact beq_iff_eq.1 h
theorem non_not {s : ByteArray} (h : (s.toList == [110, 111, 110, 101]) = false) : s.data.toList ≠ nonL := by
  intro e
  rw [← ByteArray.toList_eq] at e
  rw [e] at h
  revert h; decide
set_option maxRecDepth 100000 in
set_option maxHeartbeats 3200000 in
theorem sRead_any (s : ByteArray) (w : World) (hs : s.size ≤ 9000000000000000000) : Calls Tryd.prog 10 #[.string s] w fun e w' => ∃ r, e = .returned (retR r) ∧ ReadsR s.data.toList r ∧ Below w.heap.size w w' := by
  cases h0 : (s.toList == [110, 111, 110, 101])
  · have HN0 := mkHid (non_not h0)
    go_enter Tryd.func10, Tryd.ntmps10
    go_wp2_with fail
    go_loop [4] (fun i => ∃ k : Nat, k ≤ s.size + 1 ∧ k ≤ 12 ∧ i = .int .i64 k ∧ ∀ j, j < k → occAt s.data.toList [46, 46] j = false) (fun i => s.size + 2 - (RowKit.intOf i).toNat)
    case atStart => exact ⟨0, Nat.zero_le _, by omega, rfl, fun j hj => by omega⟩
    case round =>
      obtain ⟨k, hks, hk12, rfl, hall⟩ := hrel
      have HA := mkHid hall
      clear hall
      by_cases hlt : k + 1 < s.size
      · have hlt1 : (k : Int) + 1 < (s.size : Int) := by omega
        by_cases h12 : k < 12
        · have h12' : (k : Int) < 12 := by omega
          have hq2 : k + 2 ≤ s.size := by omega
          cases ho : ((s.extract k (k + 2)).toList == [46, 46])
          · have HN := mkHid (show ∀ j, j < k + 1 → occAt s.data.toList [46, 46] j = false from fun j hj => by
              rcases (by omega : j < k ∨ j = k) with h | rfl
              · exact HA.out j h
              · rw [← occ_ext]; exact ho)
            clear HA
            go_wp2_with fail
            go_round
            case rel => exact ⟨k + 1, by omega, by omega, by go_num, HN.out⟩
            case measure => simp [RowKit.intOf]; omega
          · have HO := mkHid (occ_ext.symm.trans ho)
            have t1 : (s.extract 0 k).data.toList = s.data.toList.take k := by rw [Lib.extract_data]; simp
            have t2 : (s.extract (k + 2) s.size).data.toList = s.data.toList.drop (k + 2) := Lib.extract_to_end s (k + 2)
            have HT1 := mkHid t1
            have HT2 := mkHid t2
            clear t1 t2
            go_wp2_with fail
            refine (sInt_any (s.extract 0 k) 1000000 _ (by simp; omega) (by omega) (by omega)).mono ?_
            rintro e w2 ⟨r1, rfl, h1, rfl⟩
            rw [HT1.out] at h1
            have H1 := mkHid h1
            clear h1 HT1
            go_wp2_with fail
            refine (sInt_any (s.extract (k + 2) s.size) 1000000 _ (by simp; omega) (by omega) (by omega)).mono ?_
            rintro e w3 ⟨r2, rfl, h2, rfl⟩
            rw [HT2.out] at h2
            have HR := mkHid (reads_two HN0.out HO.out HA.out H1.out h2)
            clear h2 HT2 H1 HA HO
            cases r1 with
            | none =>
              go_wp2
              exact bodyPost_ret (v := retR none) (by simp [results, Tryd.results10, go_sem, retR]) rfl ⟨_, rfl, HR.out, (by repeat (first | with_reducible exact Below.refl _ _ | (with_reducible refine bl_set2 ?_ ?_ _; (first | (simp; done) | (simp [*]; done) | (simp [*] <;> omega))) | with_reducible refine bl_drew ?_ | with_reducible refine bl_alloc ?_ _ | with_reducible refine below_step ?_ (by assumption) | with_reducible assumption))⟩
            | some a =>
              cases r2 with
              | none =>
                go_wp2
                exact bodyPost_ret (v := retR none) (by simp [results, Tryd.results10, go_sem, retR]) rfl ⟨_, rfl, HR.out, (by repeat (first | with_reducible exact Below.refl _ _ | (with_reducible refine bl_set2 ?_ ?_ _; (first | (simp; done) | (simp [*]; done) | (simp [*] <;> omega))) | with_reducible refine bl_drew ?_ | with_reducible refine bl_alloc ?_ _ | with_reducible refine below_step ?_ (by assumption) | with_reducible assumption))⟩
              | some b =>
                by_cases hab : a ≤ b
                · have HR2 : Hid (ReadsR s.data.toList (some (a, b))) := mkHid (by have := HR.out; simp only [if_pos hab] at this; exact this)
                  clear HR
                  go_wp2
                  exact bodyPost_ret (v := retR (some (a, b))) (by simp [results, Tryd.results10, go_sem, retR]) rfl ⟨_, rfl, HR2.out, (by repeat (first | with_reducible exact Below.refl _ _ | (with_reducible refine bl_set2 ?_ ?_ _; (first | (simp; done) | (simp [*]; done) | (simp [*] <;> omega))) | with_reducible refine bl_drew ?_ | with_reducible refine bl_alloc ?_ _ | with_reducible refine below_step ?_ (by assumption) | with_reducible assumption))⟩
                · have HR2 : Hid (ReadsR s.data.toList none) := mkHid (by have := HR.out; simp only [if_neg hab] at this; exact this)
                  clear HR
                  go_wp2
                  exact bodyPost_ret (v := retR none) (by simp [results, Tryd.results10, go_sem, retR]) rfl ⟨_, rfl, HR2.out, (by repeat (first | with_reducible exact Below.refl _ _ | (with_reducible refine bl_set2 ?_ ?_ _; (first | (simp; done) | (simp [*]; done) | (simp [*] <;> omega))) | with_reducible refine bl_drew ?_ | with_reducible refine bl_alloc ?_ _ | with_reducible refine below_step ?_ (by assumption) | with_reducible assumption))⟩
        · have HR := mkHid (reads_far HN0.out HA.out (.inr (by omega)))
          have h12' : ¬ (k : Int) < 12 := by omega
          clear HA
          go_wp2
          exact bodyPost_ret (v := retR none) (by simp [results, Tryd.results10, go_sem, retR]) rfl ⟨_, rfl, HR.out, (by repeat (first | with_reducible exact Below.refl _ _ | (with_reducible refine bl_set2 ?_ ?_ _; (first | (simp; done) | (simp [*]; done) | (simp [*] <;> omega))) | with_reducible refine bl_drew ?_ | with_reducible refine bl_alloc ?_ _ | with_reducible refine below_step ?_ (by assumption) | with_reducible assumption))⟩
      · have HR := mkHid (reads_far HN0.out HA.out (.inl (by rw [ba_len]; omega)))
        have hlt1 : ¬ (k : Int) + 1 < (s.size : Int) := by omega
        clear HA
        go_wp2
        exact bodyPost_ret (v := retR none) (by simp [results, Tryd.results10, go_sem, retR]) rfl ⟨_, rfl, HR.out, (by repeat (first | with_reducible exact Below.refl _ _ | (with_reducible refine bl_set2 ?_ ?_ _; (first | (simp; done) | (simp [*]; done) | (simp [*] <;> omega))) | with_reducible refine bl_drew ?_ | with_reducible refine bl_alloc ?_ _ | with_reducible refine below_step ?_ (by assumption) | with_reducible assumption))⟩
  · have HN := mkHid (show ReadsR s.data.toList (some (1, 0)) by rw [non_of h0]; exact reads_non)
    go_enter Tryd.func10, Tryd.ntmps10
    go_wp2_with (go_at_call 45; refine (sNone_any _).mono ?_; rintro e w' ⟨rfl, hb⟩; obtain ⟨hc, hf, hm, hs⟩ := bcell4 hb; have hz0 : w.heap.size < w'.heap.size := (by have := hb.size; (try simp at this); omega))
    exact bodyPost_ret (v := retR (some (1, 0))) (by simp [results, Tryd.results10, go_sem, hc, retR]) rfl ⟨_, rfl, HN.out, (by repeat (first | with_reducible exact Below.refl _ _ | (with_reducible refine bl_set2 ?_ ?_ _; (first | (simp; done) | (simp [*]; done) | (simp [*] <;> omega))) | with_reducible refine bl_drew ?_ | with_reducible refine bl_alloc ?_ _ | with_reducible refine below_step ?_ (by assumption) | with_reducible assumption))⟩
end Go.Proofs.YtiihjoliodemmaaDoor
