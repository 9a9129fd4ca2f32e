/-
  CONTRACTS: a label by the specification; rows of strings: taken over, compared, measured; all of them labels, on both sides.
-/
import Derived.Test.YthfiblldccnjcaaDoorLbw
import Derived.Deep.QuietTactic
import Derived.Deep.AppendLies
namespace Go.Proofs.YthfiblldccnjcaaDoor
open Go.RowKit
open Wd.Pl (nameB byt)

theorem u8_eq {x : UInt8} {n : Nat} (h : (x.toNat : Int) = n) (hn : n < 256) : x = UInt8.ofNat n := by
  apply UInt8.toNat_inj.1
  rw [UInt8.toNat_ofNat']
  omega
theorem lab_spec_yes {s : ByteArray} (h5 : 5 < s.size) (hp : ((s.extract 0 4).toList == [108, 101, 110, 40]) = true) (hl : ((((s[s.size - 1]'(by omega)).toNat : Nat) : Int) == 41) = true) : labB s = nameB (s.extract 4 (s.size - 1)) := by
  have e1 : Lib.hasPrefix s.data.toList lenL = true := by
    have e := beq_iff_eq.1 hp
    rw [ByteArray.toList_eq, Lib.extract_data] at e
    refine List.isPrefixOf_iff_prefix.2 ⟨s.data.toList.drop 4, ?_⟩
    have e2 : s.data.toList.take 4 = lenL := e
    rw [← e2, List.take_append_drop]
  have e2 : Lib.hasSuffix s.data.toList [41] = true := by
    have e3 : s[s.size - 1]'(by omega) = 41 := u8_eq (n := 41) (by simpa using hl) (by omega)
    have e4 := ba_get (u := s) (k := s.size - 1) (by omega)
    rw [e3] at e4
    have e5 : s.data.toList.getLast? = some 41 := by rw [List.getLast?_eq_getElem?, ba_len]; exact e4
    obtain ⟨z, hz⟩ := List.getLast?_eq_some_iff.1 e5
    exact List.isSuffixOf_iff_suffix.2 ⟨z, hz.symm⟩
  unfold labB
  rw [e1, e2, decide_eq_true h5]
  rfl
theorem lab_spec_no {s : ByteArray} (h : ¬ (5 < s.size ∧ ((s.extract 0 4).toList == [108, 101, 110, 40]) = true ∧ ∀ hk : s.size - 1 < s.size, ((((s[s.size - 1]'hk).toNat : Nat) : Int) == 41) = true)) : labB s = nameB s := by
  unfold labB
  split
  · rename_i hh
    simp only [Bool.and_eq_true, decide_eq_true_eq] at hh
    exfalso
    refine h ⟨hh.2.2, ?_, fun hk => ?_⟩
    · obtain ⟨q, hq⟩ := List.isPrefixOf_iff_prefix.1 hh.1
      rw [ByteArray.toList_eq, Lib.extract_data, ← hq]
      rfl
    · obtain ⟨z, hz⟩ := List.isSuffixOf_iff_suffix.1 hh.2.1
      have e5 : s.data.toList.getLast? = some 41 := by rw [← hz, List.getLast?_append]; rfl
      rw [List.getLast?_eq_getElem?, ba_len, ba_get hk] at e5
      rw [Option.some.inj e5]; rfl
  · rfl
set_option maxRecDepth 100000 in
set_option maxHeartbeats 800000 in
theorem sLabel_any (s : ByteArray) (w : World) (hs : s.size ≤ 1048576) : Calls Tryd.prog 15 #[.string s] w fun e w' => e = .returned (.bool (labB s)) ∧ Below w.heap.size w w' := by
  have hml : ∀ u : ByteArray, u.size ≤ 1048576 → u.size ≤ maxLen := fun u h => by unfold maxLen; omega
  by_cases h5 : 5 < s.size
  · have h5' : 5 < (s.size : Int) := by omega
    have hw : IntKind.i64.wrap ((s.size : Int) - 1) = ((s.size - 1 : Nat) : Int) := by rw [IntWalk.i64_in _ ⟨by omega, by omega⟩]; omega
    have h4 : 4 ≤ s.size := by omega
    have hk : s.size - 1 < s.size := by omega
    have hk4 : 4 ≤ s.size - 1 := by omega
    have hkl : s.size - 1 ≤ s.size := by omega
    cases hp : ((s.extract 0 4).toList == [108, 101, 110, 40])
    · have E := mkHid (show nameB s = labB s from (lab_spec_no (fun h => by rw [hp] at h; cases h.2.1)).symm)
      have HN := mkHid (hml s hs)
      clear hml
      go_enter Tryd.func15, Tryd.ntmps15
      go_wp2_with fail
      refine (Wd.sName_any s _ HN.out).mono ?_
      rintro e w2 ⟨rfl, hb⟩
      go_wp2
      go_ret
      exact ⟨ret_bool E.out, hb⟩
    · cases hl : ((((s[s.size - 1]'hk).toNat : Nat) : Int) == 41)
      · have E := mkHid (show nameB s = labB s from (lab_spec_no (fun h => by have := h.2.2 hk; rw [hl] at this; cases this)).symm)
        have HN := mkHid (hml s hs)
        clear hml
        go_enter Tryd.func15, Tryd.ntmps15
        go_wp2_with fail
        refine (Wd.sName_any s _ HN.out).mono ?_
        rintro e w2 ⟨rfl, hb⟩
        go_wp2
        go_ret
        exact ⟨ret_bool E.out, hb⟩
      · have E := mkHid (show nameB (s.extract 4 (s.size - 1)) = labB s from (lab_spec_yes h5 hp hl).symm)
        have HN := mkHid (hml (s.extract 4 (s.size - 1)) (by simp; omega))
        clear hml
        go_enter Tryd.func15, Tryd.ntmps15
        go_wp2_with fail
        refine (Wd.sName_any (s.extract 4 (s.size - 1)) _ HN.out).mono ?_
        rintro e w2 ⟨rfl, hb⟩
        go_wp2
        go_ret
        exact ⟨ret_bool E.out, hb⟩
  · have h5' : ¬ 5 < (s.size : Int) := by omega
    have E := mkHid (show nameB s = labB s from (lab_spec_no (fun h => h5 h.1)).symm)
    have HN := mkHid (hml s hs)
    clear hml
    go_enter Tryd.func15, Tryd.ntmps15
    go_wp2_with fail
    refine (Wd.sName_any s _ HN.out).mono ?_
    rintro e w2 ⟨rfl, hb⟩
    go_wp2
    go_ret
    exact ⟨ret_bool E.out, hb⟩
end Go.Proofs.YthfiblldccnjcaaDoor
