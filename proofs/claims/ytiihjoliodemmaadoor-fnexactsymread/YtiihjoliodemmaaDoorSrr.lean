/-
  CONTRACT of the program's SymRead.
-/
import Derived.Test.YtiihjoliodemmaaDoorSrt
namespace Go.Proofs.YtiihjoliodemmaaDoor
open Go.RowKit
open Go.Lib (idxOfS)

theorem cutA_l (t : List UInt8) : (⟨(Lib.cut t [32]).1.toArray⟩ : ByteArray) = cutA t [32] := rfl
theorem cutA_d (t : List UInt8) : (cutA t [32]).data.toList = (Lib.cut t [32]).1 := by unfold cutA; simp
theorem cutB_d (t : List UInt8) : (cutB t [32]).data.toList = (Lib.cut t [32]).2.1 := by unfold cutB; simp
theorem term_false {l : List ByteArray} {t : List UInt8} {v c : Int} (h : Term l t v c false) : ReadsS l t none := by
  refine readS_none fun c' hp => ?_
  rw [cutA_l] at hp
  rcases h with ⟨hi, _, hn⟩ | ⟨k, hi, _, hn⟩
  · rcases hp with ⟨_, ha, _⟩ | ⟨k', hi', _⟩
    · rcases hn with ⟨q, _⟩ | ⟨_, hn⟩
      · cases q
      · rw [cutA_d] at hn; exact hn c' ha
    · omega
  · rcases hp with ⟨hi', _⟩ | ⟨k', hi', hp⟩
    · omega
    · rcases hn with ⟨_, _, q⟩ | ⟨hb, hn⟩
      · cases q
      · rcases hn with ⟨q, _⟩ | ⟨_, hn⟩
        · cases q
        · rw [cutB_d] at hb hn
          rcases hp with ⟨hb', _⟩ | ⟨_, ha, _⟩
          · exact hb hb'
          · exact hn c' ha
theorem term_no {l : List ByteArray} {t : List UInt8} {v c : Int} (h : Term l t v c true) (ht : (textS l v c).data.toList ≠ t) : ReadsS l t none := by
  refine readS_none fun c' hp => ?_
  rw [cutA_l] at hp
  rcases h with ⟨hi, rfl, hn⟩ | ⟨k, hi, rfl, hn⟩
  · rcases hp with ⟨_, ha, hx⟩ | ⟨k', hi', _⟩
    · rcases hn with ⟨_, hn⟩ | ⟨q, _⟩
      · rw [cutA_d, ha] at hn
        cases hn
        exact ht hx
      · cases q
    · omega
  · rcases hp with ⟨hi', _⟩ | ⟨k', hi', hp⟩
    · omega
    · obtain rfl : k = k' := by omega
      rcases hn with ⟨hb, rfl, _⟩ | ⟨hb, hn⟩
      · rw [cutB_d] at hb
        rcases hp with ⟨_, hx⟩ | ⟨hb', _⟩
        · exact ht hx
        · exact hb' hb
      · rw [cutB_d] at hb
        rcases hn with ⟨_, hn⟩ | ⟨q, _⟩
        · rcases hp with ⟨hb', _⟩ | ⟨_, ha, hx⟩
          · exact hb hb'
          · rw [cutB_d, ha] at hn
            cases hn
            exact ht hx
        · cases q
theorem term_yes {l : List ByteArray} {t : List UInt8} {v c : Int} (h : Term l t v c true) (hne : t ≠ []) (ht : (textS l v c).data.toList = t) : ReadsS l t (some (v, c)) := by
  refine readS_some hne ht ?_
  rcases h with ⟨_, rfl, _⟩ | ⟨k, hi, rfl, _⟩
  · exact .inl rfl
  · refine .inr ⟨k, rfl, ?_⟩
    rw [cutA_l]
    rcases idx_cases l (cutA t [32]) with h | ⟨k', _, hi', _, hm⟩
    · omega
    · obtain rfl : k = k' := by omega
      exact hm
set_option maxRecDepth 100000 in
set_option maxHeartbeats 3200000 in
theorem iSymRead_of (s : ByteArray) (l : List ByteArray) (b off cap : Nat) (w : World) (hE : Env w) (hs : s.size ≤ 1048576) (hF : Fit l 1048576) (hl : StrsIn w l b off) : Calls Tryd.prog 26 #[.string s, .slice (some ⟨b, off, none⟩) l.length cap] w fun e w' => ∃ r, e = .returned (retR r) ∧ ReadsS l s.data.toList r ∧ Below w.heap.size w w' := by
  have HE := mkHid hE
  have HF := mkHid hF
  have HL := mkHid hl
  clear hE hF hl
  have BE := mkHid ((Below.refl w.heap.size w).alloc (Nat.le_refl _) (.cells #[.int .i64 0, .int .i64 0] 44))
  have BX := mkHid (Box.new w 0 0 44)
  go_enter Tryd.func26, Tryd.ntmps26
  go_wp2_with fail
  refine (labelReader_any l b off cap _).mono ?_
  rintro e w1 ⟨P, rfl, hP, hb⟩
  have BE := mkHid (below_step BE.out hb)
  have BX := mkHid (BX.out.below hb)
  have HP := mkHid hP
  clear hb hP
  go_wp2_with fail
  refine (readTerm_any s l b off cap P _ (HE.out.below BE.out) hs HF.out HP.out (HL.out.below BE.out)).mono ?_
  rintro e w2 ⟨v, c, ok, rfl, hT, hb⟩
  have BE := mkHid (below_step BE.out hb)
  have BX := mkHid (BX.out.below hb)
  have HT := mkHid hT
  clear hb hT HP
  obtain ⟨x0, x1, x2, x3⟩ := BX.out
  have hxl := BX.out.lt
  have hB2 := BE.out
  cases ok with
  | false =>
    have HN := mkHid (term_false HT.out)
    go_wp2
    exact bodyPost_ret (v := retR none) (by simp [results, Tryd.results26, go_sem, retR, *]) rfl ⟨_, rfl, HN.out, (by repeat (first | with_reducible exact Below.refl _ _ | (with_reducible refine bl_set2 ?_ ?_ _; (first | (simp; done) | (simp [*]; done) | (simp [*] <;> omega))) | with_reducible refine bl_drew ?_ | with_reducible refine bl_alloc ?_ _ | with_reducible refine below_step ?_ (by assumption) | with_reducible assumption))⟩
  | true =>
    by_cases hse : s.data.toList = []
    · have hem := ba_yes hse
      have HN := mkHid (show ReadsS l s.data.toList none by rw [hse]; exact readS_empty)
      go_wp2
      exact bodyPost_ret (v := retR none) (by simp [results, Tryd.results26, go_sem, retR, *]) rfl ⟨_, rfl, HN.out, (by repeat (first | with_reducible exact Below.refl _ _ | (with_reducible refine bl_set2 ?_ ?_ _; (first | (simp; done) | (simp [*]; done) | (simp [*] <;> omega))) | with_reducible refine bl_drew ?_ | with_reducible refine bl_alloc ?_ _ | with_reducible refine below_step ?_ (by assumption) | with_reducible assumption))⟩
    · have hem := ba_not hse
      obtain ⟨w3, hw3⟩ : ∃ x : World, w2.alloc (.cells #[.int .i64 v, .int .i64 c] 44) = x := ⟨_, rfl⟩
      have BE3 : Hid (Below w.heap.size w w3) := mkHid (by rw [← hw3]; exact bl_alloc BE.out _)
      have BX3 : Hid (Box w3 w.heap.size 0 0) := mkHid (by rw [← hw3]; exact BX.out.below ((Below.refl _ _).alloc (Nat.le_refl _) _))
      have BY3 : Hid (Box w3 w2.heap.size v c) := mkHid (by rw [← hw3]; exact Box.new w2 v c 44)
      have hne : w.heap.size ≠ w2.heap.size := by omega
      have HW := mkHid hw3
      clear hw3
      go_wp2_with fail
      rw [HW.out]
      clear HW x0 x1 x2 x3 hB2 BE BX
      refine (iSymText_of v c l b off cap _ HF.out (HL.out.below BE3.out) (HE.out.below BE3.out).tab).mono ?_
      rintro e w4 ⟨rfl, hb⟩
      have BE := mkHid (below_step BE3.out hb)
      have BX := mkHid (BX3.out.below hb)
      have BY := mkHid (BY3.out.below hb)
      clear hb BE3 BX3 BY3
      obtain ⟨x0, x1, x2, x3⟩ := BX.out
      obtain ⟨y0, y1, y2, y3⟩ := BY.out
      have hBE := BE.out
      cases ht : ((textS l v c).toList == s.toList)
      · have HN := mkHid (term_no HT.out (fun e => beq_no ht e.symm))
        go_wp2
        exact bodyPost_ret (v := retR none) (by simp [results, Tryd.results26, go_sem, retR, x0, x1]) rfl ⟨_, rfl, HN.out, (by repeat (first | with_reducible exact Below.refl _ _ | (with_reducible refine bl_set2 ?_ ?_ _; (first | (simp; done) | (simp [*]; done) | (simp [*] <;> omega))) | with_reducible refine bl_drew ?_ | with_reducible refine bl_alloc ?_ _ | with_reducible refine below_step ?_ (by assumption) | with_reducible assumption))⟩
      · have HN := mkHid (term_yes HT.out hse (beq_yes ht).symm)
        go_wp2
        exact bodyPost_ret (v := retR (some (v, c))) (by simp [results, Tryd.results26, go_sem, retR, x0, x1]) rfl ⟨_, rfl, HN.out, (by repeat (first | with_reducible exact Below.refl _ _ | (with_reducible refine bl_set2 ?_ ?_ _; (first | (simp; done) | (simp [*]; done) | (simp [*] <;> omega))) | with_reducible refine bl_drew ?_ | with_reducible refine bl_alloc ?_ _ | with_reducible refine below_step ?_ (by assumption) | with_reducible assumption))⟩
end Go.Proofs.YtiihjoliodemmaaDoor
