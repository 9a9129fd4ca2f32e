/-
  CONTRACT of the program's reader of terms.
-/
import Derived.Test.YtiihjoliodemmaaDoorSri
namespace Go.Proofs.YtiihjoliodemmaaDoor
open Go.RowKit
open Go.Lib (idxOfS)

def Num (x : ByteArray) (c : Int) (ok : Bool) : Prop := (ok = true ∧ Lib.atoiAll (Lib.replace x.data.toList [32] [] 1) = .ok c) ∨ (ok = false ∧ ∀ m, Lib.atoiAll (Lib.replace x.data.toList [32] [] 1) ≠ .ok m)
/-- How a term is read. -/
def Term (l : List ByteArray) (t : List UInt8) (v c : Int) (ok : Bool) : Prop :=
  (idxOfS l (cutA t [32]) = -1 ∧ v = 0 ∧ Num (cutA t [32]) c ok) ∨
  ∃ k : Nat, idxOfS l (cutA t [32]) = k ∧ v = 1 + (k : Int) ∧ (((cutB t [32]).data.toList = [] ∧ c = 0 ∧ ok = true) ∨ ((cutB t [32]).data.toList ≠ [] ∧ Num (cutB t [32]) c ok))
theorem ba_not {t : ByteArray} (h : t.data.toList ≠ []) : t.toList.isEmpty = false := by rw [ByteArray.toList_eq]; simpa using h
theorem ba_yes {t : ByteArray} (h : t.data.toList = []) : t.toList.isEmpty = true := by rw [ByteArray.toList_eq]; simpa using h
theorem repl_len (x : List UInt8) : (Lib.replace x [32] [] 1).length ≤ x.length := by
  unfold Lib.replace
  rw [if_neg (by decide)]
  have key : ∀ (k : Nat) (y : List UInt8), (Lib.replaceK [32] [] k y).length ≤ y.length := by
    intro k
    induction k with
    | zero => intro y; exact Nat.le_refl _
    | succ k ih =>
      intro y
      rw [Lib.replaceK]
      split
      · exact Nat.le_refl _
      · have h1 := ih (y.drop ((Lib.index y [32]).toNat + [(32 : UInt8)].length))
        rw [List.length_drop] at h1
        simp only [List.length_append, List.length_take, List.length_nil]
        omega
  exact key _ x
set_option maxRecDepth 100000 in
set_option maxHeartbeats 3200000 in
theorem readTerm_any (s : ByteArray) (l : List ByteArray) (b off cap P : Nat) (w : World) (hE : Env w) (hs : s.size ≤ 1048576) (hF : Fit l 1048576) (hP : w.cell? ⟨P, 0, none⟩ = some (.slice (some ⟨b, off, none⟩) l.length cap)) (hl : StrsIn w l b off) : Calls Tryd.prog 61 #[.string s, .func (.func 111) #[] #[.pointer (some ⟨P, 0, none⟩)]] w fun e w' => ∃ (v c : Int) (ok : Bool), e = .returned (.tuple #[.agg #[.int .i64 v, .int .i64 c], .bool ok]) ∧ Term l s.data.toList v c ok ∧ Below w.heap.size w w' := by
  have HE := mkHid hE
  have HF := mkHid hF
  have HP := mkHid hP
  have HL := mkHid hl
  clear hE hF hP hl
  have BE := mkHid ((Below.refl w.heap.size w).alloc (Nat.le_refl _) (.cells #[.int .i64 0, .int .i64 0] 44))
  have BX := mkHid (Box.new w 0 0 44)
  go_enter Tryd.func61, Tryd.ntmps61
  go_wp2_with fail
  refine (cut_any s ⟨#[32]⟩ _ (HE.out.below BE.out) (by omega)).mono ?_
  rintro e w1 ⟨⟨bb, rfl⟩, hb⟩
  have BE := mkHid (below_step BE.out hb)
  have BX := mkHid (BX.out.below hb)
  clear hb
  have hsA := cutA_size s [32]
  have hsB := cutB_size s [32]
  obtain ⟨A, hA⟩ : ∃ A, cutA s.data.toList [32] = A := ⟨_, rfl⟩
  obtain ⟨C, hC⟩ : ∃ C, cutB s.data.toList [32] = C := ⟨_, rfl⟩
  have HA := mkHid hA
  have HC := mkHid hC
  rw [show cutA s.data.toList (ByteArray.mk #[32]).data.toList = A from hA, show cutB s.data.toList (ByteArray.mk #[32]).data.toList = C from hC]
  rw [hA] at hsA
  rw [hC] at hsB
  clear hA hC
  go_wp2_with fail
  refine (cloLab_any A l b off cap P _ HF.out ((BE.out.cell (p := ⟨P, 0, none⟩) (World.block_lt_of_cell? _ _ HP.out)).trans HP.out) (HL.out.below BE.out)).mono ?_
  rintro e w2 ⟨rfl, rfl⟩
  rcases idx_cases l A with hi | ⟨k, hk, hi, _, _⟩
  · have hi1 := hi.1
    have HI := mkHid hi1
    clear hi
    rw [hi1]
    clear hi1
    go_wp2_with fail
    refine (repl_any A _ (HE.out.below BE.out) (by omega)).mono ?_
    rintro e wna ⟨rfl, hb⟩
    have BE := mkHid (below_step BE.out hb)
    have BX := mkHid (BX.out.below hb)
    clear hb
    obtain ⟨R, hR⟩ : ∃ R : ByteArray, (⟨(Lib.replace A.data.toList [32] [] 1).toArray⟩ : ByteArray) = R := ⟨_, rfl⟩
    have HR : Hid (R.data.toList = Lib.replace A.data.toList [32] [] 1) := mkHid (by rw [← hR])
    have HRS : Hid (R.size ≤ 281474976710656) := mkHid (by rw [← ba_len, HR.out]; have := repl_len A.data.toList; rw [ba_len] at this; omega)
    rw [hR]
    clear hR
    go_wp2_with fail
    refine (atoi_any R _ (HE.out.below BE.out) HRS.out).mono ?_
    rintro e wnb ⟨c, ev, rfl, hc, hb⟩
    rw [HR.out] at hc
    have BE := mkHid (below_step BE.out hb)
    have BX := mkHid (BX.out.below hb)
    clear hb
    obtain ⟨x0, x1, x2, x3⟩ := BX.out
    have hBE := BE.out
    rcases hc with ⟨rfl, hc⟩ | ⟨⟨tp, p, rfl⟩, hc⟩
    · have HT := mkHid (show Term l s.data.toList 0 c true from by unfold Term; rw [HA.out]; exact .inl ⟨HI.out, rfl, .inl ⟨rfl, hc⟩⟩)
      clear hc
      go_wp2_with fail
      go_region
      all_goals
        go_wp2
        exact bodyPost_ret (v := .tuple #[.agg #[.int .i64 0, .int .i64 c], .bool true]) (by simp [results, Tryd.results61, go_sem, *]) rfl ⟨_, _, _, rfl, HT.out, (by repeat (first | with_reducible exact Below.refl _ _ | (with_reducible refine bl_set2 ?_ ?_ _; (first | (simp; done) | (simp [*]; done) | (simp [*] <;> omega))) | with_reducible refine bl_drew ?_ | with_reducible refine bl_alloc ?_ _ | with_reducible refine below_step ?_ (by assumption) | with_reducible assumption))⟩
    · have HT := mkHid (show Term l s.data.toList 0 c false from by unfold Term; rw [HA.out]; exact .inl ⟨HI.out, rfl, .inr ⟨rfl, hc⟩⟩)
      clear hc
      go_wp2_with fail
      go_region
      all_goals
        go_wp2
        exact bodyPost_ret (v := .tuple #[.agg #[.int .i64 0, .int .i64 c], .bool false]) (by simp [results, Tryd.results61, go_sem, *]) rfl ⟨_, _, _, rfl, HT.out, (by repeat (first | with_reducible exact Below.refl _ _ | (with_reducible refine bl_set2 ?_ ?_ _; (first | (simp; done) | (simp [*]; done) | (simp [*] <;> omega))) | with_reducible refine bl_drew ?_ | with_reducible refine bl_alloc ?_ _ | with_reducible refine below_step ?_ (by assumption) | with_reducible assumption))⟩
  · have HI := mkHid hi
    rw [hi]
    clear hi
    have hk0 : (0 : Int) ≤ (k : Int) := by omega
    obtain ⟨z, hz⟩ : ∃ z, 1 + (k : Int) = z := ⟨_, rfl⟩
    rw [hz]
    have HZ := mkHid hz
    clear hz
    by_cases hCe : C.data.toList = []
    · have hem := ba_yes hCe
      have HT := mkHid (show Term l s.data.toList z 0 true by unfold Term; rw [HA.out, HC.out]; exact .inr ⟨k, HI.out, HZ.out.symm, .inl ⟨hCe, rfl, rfl⟩⟩)
      obtain ⟨x0, x1, x2, x3⟩ := BX.out
      have hBE := BE.out
      go_wp2
      exact bodyPost_ret (v := .tuple #[.agg #[.int .i64 z, .int .i64 0], .bool true]) (by simp [results, Tryd.results61, go_sem, *]) rfl ⟨_, _, _, rfl, HT.out, (by repeat (first | with_reducible exact Below.refl _ _ | (with_reducible refine bl_set2 ?_ ?_ _; (first | (simp; done) | (simp [*]; done) | (simp [*] <;> omega))) | with_reducible refine bl_drew ?_ | with_reducible refine bl_alloc ?_ _ | with_reducible refine below_step ?_ (by assumption) | with_reducible assumption))⟩
    · have hem := ba_not hCe
      go_wp2_with fail
      refine (repl_any C _ (HE.out.below BE.out) (by omega)).mono ?_
      rintro e wya ⟨rfl, hb⟩
      have BE := mkHid (below_step BE.out hb)
      have BX := mkHid (BX.out.below hb)
      clear hb
      obtain ⟨R, hR⟩ : ∃ R : ByteArray, (⟨(Lib.replace C.data.toList [32] [] 1).toArray⟩ : ByteArray) = R := ⟨_, rfl⟩
      have HR : Hid (R.data.toList = Lib.replace C.data.toList [32] [] 1) := mkHid (by rw [← hR])
      have HRS : Hid (R.size ≤ 281474976710656) := mkHid (by rw [← ba_len, HR.out]; have := repl_len C.data.toList; rw [ba_len] at this; omega)
      rw [hR]
      clear hR
      go_wp2_with fail
      refine (atoi_any R _ (HE.out.below BE.out) HRS.out).mono ?_
      rintro e wyb ⟨c, ev, rfl, hc, hb⟩
      rw [HR.out] at hc
      have BE := mkHid (below_step BE.out hb)
      have BX := mkHid (BX.out.below hb)
      clear hb
      obtain ⟨x0, x1, x2, x3⟩ := BX.out
      have hBE := BE.out
      rcases hc with ⟨rfl, hc⟩ | ⟨⟨tp, p, rfl⟩, hc⟩
      · have HT := mkHid (show Term l s.data.toList z c true from by unfold Term; rw [HA.out, HC.out]; exact .inr ⟨k, HI.out, HZ.out.symm, .inr ⟨hCe, .inl ⟨rfl, hc⟩⟩⟩)
        clear hc
        go_wp2_with fail
        go_region
        all_goals
          go_wp2
          exact bodyPost_ret (v := .tuple #[.agg #[.int .i64 z, .int .i64 c], .bool true]) (by simp [results, Tryd.results61, go_sem, *]) rfl ⟨_, _, _, rfl, HT.out, (by repeat (first | with_reducible exact Below.refl _ _ | (with_reducible refine bl_set2 ?_ ?_ _; (first | (simp; done) | (simp [*]; done) | (simp [*] <;> omega))) | with_reducible refine bl_drew ?_ | with_reducible refine bl_alloc ?_ _ | with_reducible refine below_step ?_ (by assumption) | with_reducible assumption))⟩
      · have HT := mkHid (show Term l s.data.toList z c false from by unfold Term; rw [HA.out, HC.out]; exact .inr ⟨k, HI.out, HZ.out.symm, .inr ⟨hCe, .inr ⟨rfl, hc⟩⟩⟩)
        clear hc
        go_wp2_with fail
        go_region
        all_goals
          go_wp2
          exact bodyPost_ret (v := .tuple #[.agg #[.int .i64 z, .int .i64 c], .bool false]) (by simp [results, Tryd.results61, go_sem, *]) rfl ⟨_, _, _, rfl, HT.out, (by repeat (first | with_reducible exact Below.refl _ _ | (with_reducible refine bl_set2 ?_ ?_ _; (first | (simp; done) | (simp [*]; done) | (simp [*] <;> omega))) | with_reducible refine bl_drew ?_ | with_reducible refine bl_alloc ?_ _ | with_reducible refine below_step ?_ (by assumption) | with_reducible assumption))⟩
end Go.Proofs.YtiihjoliodemmaaDoor
