/-
  CONTRACT of the specification's ValRead.
-/
import Derived.Test.YtiihjoliodemmaaDoorVr
namespace Go.Proofs.YtiihjoliodemmaaDoor
open Go.RowKit

theorem V3.set {v : World} {X : Nat} {a b : Int} {s : Bool} (h : V3 v X a b s) (c d : Int) (t : Bool) : V3 (((v.setCell ⟨X, 0, none⟩ (.int .i64 c)).setCell ⟨X, 1, none⟩ (.int .i64 d)).setCell ⟨X, 2, none⟩ (.bool t)) X c d t := by
  obtain ⟨c0, c1, c2, f0, f1, f2⟩ := h
  constructor <;> simp [go_sem, *]
theorem ends_yes {s : ByteArray} (h : ((s.extract (s.size - 13) s.size).toList == [32, 111, 114, 32, 117, 110, 119, 114, 105, 116, 116, 101, 110]) = true) : s.data.toList = s.data.toList.take (s.size - 13) ++ orL := by
  have e := beq_iff_eq.1 h
  rw [ByteArray.toList_eq, Lib.extract_to_end] at e
  conv => lhs; rw [← List.take_append_drop (s.size - 13) s.data.toList, e]
  rfl
theorem ends_no {s : ByteArray} (h : ((s.extract (s.size - 13) s.size).toList == [32, 111, 114, 32, 117, 110, 119, 114, 105, 116, 116, 101, 110]) = false) (q : List UInt8) : s.data.toList ≠ q ++ orL := by
  intro e
  have hl := ba_len s
  rw [e, List.length_append] at hl
  have e13 : orL.length = 13 := rfl
  have h2 : (s.extract (s.size - 13) s.size).toList = orL := by
    rw [ByteArray.toList_eq, Lib.extract_to_end, e, show s.size - 13 = q.length by omega, List.drop_left]
  rw [h2] at h
  revert h; decide
/-- A text of thirteen bytes at most. -/
theorem readsV_short {l : List UInt8} (h : l.length ≤ 13) {r : Option (Int × Int)} (hr : ReadsR l r) : ReadsV l (r.map fun p => (p.1, p.2, true)) := by
  by_cases e : l = orL
  · subst e
    cases r with
    | none => exact readsV_words
    | some p => exact absurd hr.2.symm (not_or hr.1 [])
  · refine readsV_whole (fun q e2 => e ?_) hr
    have := congrArg List.length e2
    rw [List.length_append] at this
    have e13 : orL.length = 13 := rfl
    have : q = [] := List.length_eq_zero_iff.1 (by omega)
    rw [this] at e2
    exact e2
set_option maxRecDepth 100000 in
set_option maxHeartbeats 3200000 in
theorem sVread_any (s : ByteArray) (w : World) (hs : s.size ≤ 1048576) : Calls Tryd.prog 16 #[.string s] w fun e w' => ∃ r, e = .returned (retV r) ∧ ReadsV s.data.toList r ∧ Below w.heap.size w w' := by
  by_cases h13 : s.size ≤ 13
  · have hw : IntKind.i64.wrap ((s.size : Int) - 13) = (s.size : Int) - 13 := IntWalk.i64_in _ ⟨by omega, by omega⟩
    have hk : ¬ 0 < (s.size : Int) - 13 := by omega
    have HL := mkHid (show s.data.toList.length ≤ 13 by rw [ba_len]; omega)
    go_enter Tryd.func16, Tryd.ntmps16
    go_wp2_with fail
    obtain ⟨w1, hw1⟩ : ∃ x : World, (w.alloc (.cells #[.int .i64 0, .int .i64 0, .bool false] 33)).alloc (.cells #[.int .i64 0, .int .i64 0, .bool true] 33) = x := ⟨_, rfl⟩
    have HB1 : Hid (Below w.heap.size w w1) := mkHid (by rw [← hw1]; exact bl_alloc (bl_alloc (Below.refl _ _) _) _)
    have HX1 : Hid (V3 w1 w.heap.size 0 0 false) := mkHid (by rw [← hw1]; constructor <;> simp [go_sem])
    have HY1 : Hid (V3 w1 (w.heap.size + 1) 0 0 true) := mkHid (by rw [← hw1]; constructor <;> simp [go_sem])
    rw [hw1]
    clear hw1
    refine (sRead_any s _ (by omega)).mono ?_
    rintro e w2 ⟨r, rfl, hr, hb⟩
    have HR := mkHid (readsV_short HL.out hr)
    have HB2 := mkHid (below_step HB1.out hb)
    have HX2 := mkHid (HX1.out.below hb)
    have HY2 := mkHid (HY1.out.below hb)
    clear hr hb HB1 HX1 HY1
    unfold retR
    obtain ⟨x0, x1, x2, x3, x4, x5⟩ := HX2.out
    obtain ⟨y0, y1, y2, y3, y4, y5⟩ := HY2.out
    have hxl := HX2.out.lt
    have hyl := HY2.out.lt
    have hB := HB2.out
    cases r with
    | none =>
      go_wp2
      exact bodyPost_ret (v := retV none) (by simp [results, Tryd.results16, go_sem, retV, *]) rfl ⟨_, rfl, HR.out, (by repeat (first | with_reducible exact Below.refl _ _ | (with_reducible refine bl_set2 ?_ ?_ _; (first | (simp; done) | (simp [*]; done) | (simp [*] <;> omega))) | with_reducible refine bl_drew ?_ | with_reducible refine bl_alloc ?_ _ | with_reducible refine below_step ?_ (by assumption) | with_reducible assumption))⟩
    | some p =>
      obtain ⟨a, b⟩ := p
      go_wp2
      exact bodyPost_ret (v := retV (some (a, b, true))) (by simp [results, Tryd.results16, go_sem, retV, *]) rfl ⟨_, rfl, HR.out, (by repeat (first | with_reducible exact Below.refl _ _ | (with_reducible refine bl_set2 ?_ ?_ _; (first | (simp; done) | (simp [*]; done) | (simp [*] <;> omega))) | with_reducible refine bl_drew ?_ | with_reducible refine bl_alloc ?_ _ | with_reducible refine below_step ?_ (by assumption) | with_reducible assumption))⟩
  · have hw : IntKind.i64.wrap ((s.size : Int) - 13) = ((s.size - 13 : Nat) : Int) := by rw [IntWalk.i64_in _ ⟨by omega, by omega⟩]; omega
    have hk : 0 < ((s.size - 13 : Nat) : Int) := by omega
    have hk2 : 0 < s.size - 13 := by omega
    cases h : ((s.extract (s.size - 13) s.size).toList == [32, 111, 114, 32, 117, 110, 119, 114, 105, 116, 116, 101, 110])
    · have HN := mkHid (ends_no h)
      go_enter Tryd.func16, Tryd.ntmps16
      go_wp2_with fail
      obtain ⟨w1, hw1⟩ : ∃ x : World, (w.alloc (.cells #[.int .i64 0, .int .i64 0, .bool false] 33)).alloc (.cells #[.int .i64 0, .int .i64 0, .bool true] 33) = x := ⟨_, rfl⟩
      have HB1 : Hid (Below w.heap.size w w1) := mkHid (by rw [← hw1]; exact bl_alloc (bl_alloc (Below.refl _ _) _) _)
      have HX1 : Hid (V3 w1 w.heap.size 0 0 false) := mkHid (by rw [← hw1]; constructor <;> simp [go_sem])
      have HY1 : Hid (V3 w1 (w.heap.size + 1) 0 0 true) := mkHid (by rw [← hw1]; constructor <;> simp [go_sem])
      rw [hw1]
      clear hw1
      refine (sRead_any s _ (by omega)).mono ?_
      rintro e w2 ⟨r, rfl, hr, hb⟩
      have HR := mkHid (readsV_whole HN.out hr)
      have HB2 := mkHid (below_step HB1.out hb)
      have HX2 := mkHid (HX1.out.below hb)
      have HY2 := mkHid (HY1.out.below hb)
      clear hr hb HB1 HX1 HY1
      unfold retR
      obtain ⟨x0, x1, x2, x3, x4, x5⟩ := HX2.out
      obtain ⟨y0, y1, y2, y3, y4, y5⟩ := HY2.out
      have hxl := HX2.out.lt
      have hyl := HY2.out.lt
      have hB := HB2.out
      cases r with
      | none =>
        go_wp2
        exact bodyPost_ret (v := retV none) (by simp [results, Tryd.results16, go_sem, retV, *]) rfl ⟨_, rfl, HR.out, (by repeat (first | with_reducible exact Below.refl _ _ | (with_reducible refine bl_set2 ?_ ?_ _; (first | (simp; done) | (simp [*]; done) | (simp [*] <;> omega))) | with_reducible refine bl_drew ?_ | with_reducible refine bl_alloc ?_ _ | with_reducible refine below_step ?_ (by assumption) | with_reducible assumption))⟩
      | some p =>
        obtain ⟨a, b⟩ := p
        go_wp2
        exact bodyPost_ret (v := retV (some (a, b, true))) (by simp [results, Tryd.results16, go_sem, retV, *]) rfl ⟨_, rfl, HR.out, (by repeat (first | with_reducible exact Below.refl _ _ | (with_reducible refine bl_set2 ?_ ?_ _; (first | (simp; done) | (simp [*]; done) | (simp [*] <;> omega))) | with_reducible refine bl_drew ?_ | with_reducible refine bl_alloc ?_ _ | with_reducible refine below_step ?_ (by assumption) | with_reducible assumption))⟩
    · have t1 : (s.extract 0 (s.size - 13)).data.toList = s.data.toList.take (s.size - 13) := by rw [Lib.extract_data]; simp
      have HQ := mkHid (ends_yes h)
      rw [← t1] at HQ
      clear t1
      have hsz : (s.extract 0 (s.size - 13)).size ≤ 1048576 := by simp; omega
      have hle : s.size - 13 ≤ s.size := by omega
      go_enter Tryd.func16, Tryd.ntmps16
      go_wp2_with fail
      obtain ⟨w1, hw1⟩ : ∃ x : World, (w.alloc (.cells #[.int .i64 0, .int .i64 0, .bool false] 33)).alloc (.cells #[.int .i64 0, .int .i64 0, .bool false] 33) = x := ⟨_, rfl⟩
      have HB1 : Hid (Below w.heap.size w w1) := mkHid (by rw [← hw1]; exact bl_alloc (bl_alloc (Below.refl _ _) _) _)
      have HX1 : Hid (V3 w1 w.heap.size 0 0 false) := mkHid (by rw [← hw1]; constructor <;> simp [go_sem])
      have HY1 : Hid (V3 w1 (w.heap.size + 1) 0 0 false) := mkHid (by rw [← hw1]; constructor <;> simp [go_sem])
      rw [hw1]
      clear hw1
      refine (sRead_any (s.extract 0 (s.size - 13)) _ (by omega)).mono ?_
      rintro e w2 ⟨r, rfl, hr, hb⟩
      have HR := mkHid (readsV_cut HQ.out hr)
      have HB2 := mkHid (below_step HB1.out hb)
      have HX2 := mkHid (HX1.out.below hb)
      have HY2 := mkHid (HY1.out.below hb)
      clear hr hb HB1 HX1 HY1
      unfold retR
      obtain ⟨x0, x1, x2, x3, x4, x5⟩ := HX2.out
      obtain ⟨y0, y1, y2, y3, y4, y5⟩ := HY2.out
      have hxl := HX2.out.lt
      have hyl := HY2.out.lt
      have hB := HB2.out
      cases r with
      | none =>
        go_wp2
        exact bodyPost_ret (v := retV none) (by simp [results, Tryd.results16, go_sem, retV, *]) rfl ⟨_, rfl, HR.out, (by repeat (first | with_reducible exact Below.refl _ _ | (with_reducible refine bl_set2 ?_ ?_ _; (first | (simp; done) | (simp [*]; done) | (simp [*] <;> omega))) | with_reducible refine bl_drew ?_ | with_reducible refine bl_alloc ?_ _ | with_reducible refine below_step ?_ (by assumption) | with_reducible assumption))⟩
      | some p =>
        obtain ⟨a, b⟩ := p
        go_wp2
        exact bodyPost_ret (v := retV (some (a, b, false))) (by simp [results, Tryd.results16, go_sem, retV, *]) rfl ⟨_, rfl, HR.out, (by repeat (first | with_reducible exact Below.refl _ _ | (with_reducible refine bl_set2 ?_ ?_ _; (first | (simp; done) | (simp [*]; done) | (simp [*] <;> omega))) | with_reducible refine bl_drew ?_ | with_reducible refine bl_alloc ?_ _ | with_reducible refine below_step ?_ (by assumption) | with_reducible assumption))⟩
end Go.Proofs.YtiihjoliodemmaaDoor
