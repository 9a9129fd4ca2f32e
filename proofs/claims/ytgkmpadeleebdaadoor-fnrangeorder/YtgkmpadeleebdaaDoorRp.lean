/-
  CONTRACT of the program's RangeRead.
-/
import Derived.Test.YtgkmpadeleebdaaDoorEn
import Derived.Test.YtgkmpadeleebdaaDoorRs
namespace Go.Proofs.YtgkmpadeleebdaaDoor
open Go.RowKit

theorem Box.new (w : World) (a b : Int) (T : TypeId) : Box (w.alloc (.cells #[.int .i64 a, .int .i64 b] T)) w.heap.size a b := by
  unfold Box
  simp [go_sem]
theorem Box.set {v : World} {X : Nat} {a b : Int} (h : Box v X a b) (c d : Int) : Box ((v.setCell ⟨X, 0, none⟩ (.int .i64 c)).setCell ⟨X, 1, none⟩ (.int .i64 d)) X c d := by
  obtain ⟨h1, h2, h3, h4⟩ := h
  unfold Box
  simp [go_sem, *]
theorem list_inj {a b : ByteArray} (h : a.data.toList = b.data.toList) : a = b := by
  apply ByteArray.ext
  exact Array.toList_inj.1 h
theorem beq_no {a b : ByteArray} (h : (a.toList == b.toList) = false) : b.data.toList ≠ a.data.toList := by
  intro e
  rw [ByteArray.toList_eq, ByteArray.toList_eq, e] at h
  simp at h
theorem beq_yes {a b : ByteArray} (h : (a.toList == b.toList) = true) : b.data.toList = a.data.toList := by
  rw [ByteArray.toList_eq, ByteArray.toList_eq] at h
  exact (beq_iff_eq.1 h).symm
set_option maxRecDepth 100000 in
set_option maxHeartbeats 3200000 in
theorem iRead_any (s : ByteArray) (w : World) (hE : Env w) (hs : s.size ≤ 1048576) : Calls Tryd.prog 17 #[.string s] w fun e w' => ∃ r, e = .returned (retR r) ∧ ReadsR s.data.toList r ∧ Below w.heap.size w w' := by
  have HE := mkHid hE
  clear hE
  have hT0 : textM 1 0 = ⟨#[110, 111, 110, 101]⟩ := by decide
  have HI := mkHid (fun (a b : Int) (v : World) (hv : Below w.heap.size w v) => iText_any a b v (HE.out.below hv).tab)
  cases h0 : (s.toList == [110, 111, 110, 101])
  · have HN0 := mkHid (non_not h0)
    go_enter Tryd.func17, Tryd.ntmps17
    go_wp2_with fail
    refine (iNone_any _).mono ?_
    rintro e w1 ⟨rfl, hb⟩
    have HB1 := mkHid (below_step (bl_alloc (Below.refl w.heap.size w) _) hb)
    have HX1 := mkHid ((Box.new w 0 0 25).below hb)
    clear hb
    go_wp2_with fail
    refine (HI.out 1 0 _ HB1.out).mono ?_
    rintro e w2 ⟨rfl, hb⟩
    have HB2 := mkHid (below_step HB1.out hb)
    have HX2 := mkHid (HX1.out.below hb)
    clear hb HB1 HX1
    rw [hT0]
    clear hT0
    go_wp2_with fail
    refine (cut_any s ⟨#[46, 46]⟩ _ (HE.out.below HB2.out) (by omega)).mono ?_
    rintro e w3 ⟨⟨bb, rfl⟩, hb⟩
    have HB3 := mkHid (below_step HB2.out hb)
    have HX3 := mkHid (HX2.out.below hb)
    clear hb HB2 HX2
    have HA1 := mkHid (show Lib.atoiAll (cutA s.data.toList (ByteArray.mk #[46, 46]).data.toList).data.toList = Lib.atoiAll (Lib.cut s.data.toList [46, 46]).1 from rfl)
    have HA2 := mkHid (show Lib.atoiAll (cutB s.data.toList (ByteArray.mk #[46, 46]).data.toList).data.toList = Lib.atoiAll (Lib.cut s.data.toList [46, 46]).2.1 from rfl)
    have hsA := cutA_size s (ByteArray.mk #[46, 46]).data.toList
    have hsB := cutB_size s (ByteArray.mk #[46, 46]).data.toList
    generalize cutA s.data.toList (ByteArray.mk #[46, 46]).data.toList = A at *
    generalize cutB s.data.toList (ByteArray.mk #[46, 46]).data.toList = C at *
    go_wp2_with fail
    refine (atoi_any A _ (HE.out.below HB3.out) (by omega)).mono ?_
    rintro e w4 ⟨n1, e1, rfl, h1, hb⟩
    rw [HA1.out] at h1
    have H1 := mkHid h1
    clear h1 HA1
    have HB4 := mkHid (below_step HB3.out hb)
    have HX4 := mkHid (HX3.out.below hb)
    clear hb HB3 HX3
    go_wp2_with fail
    refine (atoi_any C _ (HE.out.below HB4.out) (by omega)).mono ?_
    rintro e w5 ⟨n2, e2, rfl, h2, hb⟩
    rw [HA2.out] at h2
    have H2 := mkHid h2
    clear h2 HA2
    have HB5 := mkHid (below_step HB4.out hb)
    have HX5 := mkHid (HX4.out.below hb)
    clear hb HB4 HX4
    rcases H1.out with h1 | h1
    · obtain ⟨rfl, h1⟩ := h1
      clear H1
      have H1 := mkHid h1
      clear h1
      rcases H2.out with h2 | h2
      · obtain ⟨rfl, h2⟩ := h2
        clear H2
        have H2 := mkHid h2
        clear h2
        obtain ⟨w6, hw6⟩ : ∃ x : World, w5.alloc (.cells #[.int .i64 n1, .int .i64 n2] 25) = x := ⟨_, rfl⟩
        have hxl := HX5.out.lt
        have HB6 : Hid (Below w.heap.size w w6) := mkHid (by rw [← hw6]; exact bl_alloc HB5.out _)
        have HX6 : Hid (Box w6 w.heap.size 0 0) := mkHid (by rw [← hw6]; exact HX5.out.below ((Below.refl _ _).alloc (Nat.le_refl _) _))
        have HY6 : Hid (Box w6 w5.heap.size n1 n2) := mkHid (by rw [← hw6]; exact Box.new w5 n1 n2 25)
        have hne : w.heap.size ≠ w5.heap.size := by omega
        have HW6 := mkHid hw6
        clear hw6 HB5 HX5
        go_wp2_with fail
        rw [HW6.out]
        refine (HI.out n1 n2 _ HB6.out).mono ?_
        rintro e w7 ⟨rfl, hb⟩
        clear HW6
        have HB7 := mkHid (below_step HB6.out hb)
        have HX7 := mkHid (HX6.out.below hb)
        have HY7 := mkHid (HY6.out.below hb)
        clear hb HB6 HX6 HY6
        have HT := mkHid (textM_size n1 n2)
        cases ht : ((textM n1 n2).toList == s.toList)
        · have HN := mkHid (reads_prog_no HN0.out (fun a b q1 q2 => by rw [H1.out] at q1; rw [H2.out] at q2; cases q1; cases q2; exact beq_no ht))
          clear H1 H2
          obtain ⟨x0, x1, x2, x3⟩ := HX7.out
          obtain ⟨y0, y1, y2, y3⟩ := HY7.out
          go_wp2
          exact bodyPost_ret (v := retR none) (by simp [results, Tryd.results17, go_sem, retR, x0, x1]) rfl ⟨_, rfl, HN.out, bl_set (bl_set HB7.out (Nat.le_refl _) _) (Nat.le_refl _) _⟩
        · have HN := mkHid (reads_prog_yes (b := n2) H1.out (beq_yes ht))
          clear H1 H2
          obtain ⟨x0, x1, x2, x3⟩ := HX7.out
          obtain ⟨y0, y1, y2, y3⟩ := HY7.out
          go_wp2
          exact bodyPost_ret (v := retR (some (n1, n2))) (by simp [results, Tryd.results17, go_sem, retR, x0, x1]) rfl ⟨_, rfl, HN.out, bl_set (bl_set HB7.out (Nat.le_refl _) _) (Nat.le_refl _) _⟩
      · obtain ⟨⟨tp, p, rfl⟩, hno⟩ := h2
        have HN := mkHid (reads_prog_no HN0.out (fun a b q1 q2 => absurd q2 (hno b)))
        clear H1
        obtain ⟨x0, x1, x2, x3⟩ := HX5.out
        have hB5 := HB5.out
        have hxl := HX5.out.lt
        have hxn : w.heap.size ≠ w5.heap.size := by omega
        go_wp2
        exact bodyPost_ret (v := retR none) (by simp [results, Tryd.results17, go_sem, retR, x0, x1, hxl]) rfl ⟨_, rfl, HN.out, (by repeat (first | with_reducible exact Below.refl _ _ | (with_reducible refine bl_set2 ?_ ?_ _; (first | (simp; done) | (simp [*]; done) | (simp [*] <;> omega))) | with_reducible refine bl_drew ?_ | with_reducible refine bl_alloc ?_ _ | with_reducible refine below_step ?_ (by assumption) | with_reducible assumption))⟩
    · obtain ⟨⟨tp, p, rfl⟩, hno⟩ := h1
      have HN := mkHid (reads_prog_no HN0.out (fun a b q1 q2 => absurd q1 (hno a)))
      clear H2
      obtain ⟨x0, x1, x2, x3⟩ := HX5.out
      have hB5 := HB5.out
      have hxl := HX5.out.lt
      have hxn : w.heap.size ≠ w5.heap.size := by omega
      go_wp2
      exact bodyPost_ret (v := retR none) (by simp [results, Tryd.results17, go_sem, retR, x0, x1, hxl]) rfl ⟨_, rfl, HN.out, (by repeat (first | with_reducible exact Below.refl _ _ | (with_reducible refine bl_set2 ?_ ?_ _; (first | (simp; done) | (simp [*]; done) | (simp [*] <;> omega))) | with_reducible refine bl_drew ?_ | with_reducible refine bl_alloc ?_ _ | with_reducible refine below_step ?_ (by assumption) | with_reducible assumption))⟩
  · have HN := mkHid (show ReadsR s.data.toList (some (1, 0)) by rw [non_of h0]; exact reads_non)
    go_enter Tryd.func17, Tryd.ntmps17
    go_wp2_with fail
    refine (iNone_any _).mono ?_
    rintro e w1 ⟨rfl, hb⟩
    have HB1 := mkHid (below_step (bl_alloc (Below.refl w.heap.size w) _) hb)
    have HX1 := mkHid ((Box.new w 0 0 25).below hb)
    clear hb
    go_wp2_with fail
    refine (HI.out 1 0 _ HB1.out).mono ?_
    rintro e w2 ⟨rfl, hb⟩
    have HB2 := mkHid (below_step HB1.out hb)
    have HX2 := mkHid (HX1.out.below hb)
    clear hb HB1 HX1
    rw [hT0]
    clear hT0
    go_wp2_with fail
    refine (iNone_any _).mono ?_
    rintro e w3 ⟨rfl, hb⟩
    have HB3 := mkHid (below_step HB2.out hb)
    have HX3 := mkHid (HX2.out.below hb)
    clear hb HB2 HX2
    obtain ⟨x0, x1, x2, x3⟩ := HX3.out
    go_wp2
    exact bodyPost_ret (v := retR (some (1, 0))) (by simp [results, Tryd.results17, go_sem, retR, x0, x1]) rfl ⟨_, rfl, HN.out, bl_set (bl_set HB3.out (Nat.le_refl _) _) (Nat.le_refl _) _⟩
end Go.Proofs.YtgkmpadeleebdaaDoor
