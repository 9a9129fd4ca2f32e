/-
  CONTRACTS: a label, on both sides.
-/
import Derived.Test.YthfiblldccnjcaaDoorLb
import Derived.Lib.IndexBytes
namespace Go.Proofs.YthfiblldccnjcaaDoor
open Go.RowKit
open Wd.Pl (nameB byt)

theorem suf_le {l p : List UInt8} (h : Lib.hasSuffix l p = true) : p.length ≤ l.length := by
  obtain ⟨q, hq⟩ := List.isSuffixOf_iff_suffix.1 h
  rw [← hq, List.length_append]; omega
theorem pre_le {l p : List UInt8} (h : Lib.hasPrefix l p = true) : p.length ≤ l.length := by
  obtain ⟨q, hq⟩ := List.isPrefixOf_iff_prefix.1 h
  rw [← hq, List.length_append]; omega
set_option maxRecDepth 100000 in
set_option maxHeartbeats 800000 in
theorem cutSuf_any (s p : ByteArray) (w : World) (hs : s.size ≤ 9000000000000000000) : Calls Tryd.prog 38 #[.string s, .string p] w fun e w' => e = .returned (.tuple #[.string (if Lib.hasSuffix s.data.toList p.data.toList then s.extract 0 (s.size - p.size) else s), .bool (Lib.hasSuffix s.data.toList p.data.toList)]) ∧ w = w' := by
  have key : Calls Tryd.prog 45 #[.string s, .string p] w fun e w' => e = .returned (.tuple #[.string (if Lib.hasSuffix s.data.toList p.data.toList then s.extract 0 (s.size - p.size) else s), .bool (Lib.hasSuffix s.data.toList p.data.toList)]) ∧ w = w' := by
    have HS := mkHid (Tryd.stringslite_HasSuffix s p w (by omega))
    cases h : Lib.hasSuffix s.data.toList p.data.toList
    · rw [h] at HS
      clear h
      go_enter Tryd.func45, Tryd.ntmps45
      go_wp2_with fail
      refine HS.out.mono ?_
      rintro e w' ⟨rfl, rfl⟩
      go_wp2
      exact bodyPost_ret (v := .tuple #[.string s, .bool false]) (by simp [results, Tryd.results45, go_sem]) rfl ⟨rfl, rfl⟩
    · rw [h] at HS
      have hle : p.size ≤ s.size := by have := suf_le h; rw [ba_len, ba_len] at this; exact this
      clear h
      have hw : IntKind.i64.wrap ((s.size : Int) - (p.size : Int)) = ((s.size - p.size : Nat) : Int) := by rw [IntWalk.i64_in _ ⟨by omega, by omega⟩]; omega
      have hle2 : s.size - p.size ≤ s.size := by omega
      go_enter Tryd.func45, Tryd.ntmps45
      go_wp2_with fail
      refine HS.out.mono ?_
      rintro e w' ⟨rfl, rfl⟩
      go_wp2
      exact bodyPost_ret (v := .tuple #[.string (s.extract 0 (s.size - p.size)), .bool true]) (by simp [results, Tryd.results45, go_sem]) rfl ⟨rfl, rfl⟩
  have HC := mkHid key
  clear key
  generalize (if Lib.hasSuffix s.data.toList p.data.toList then s.extract 0 (s.size - p.size) else s) = t at *
  generalize Lib.hasSuffix s.data.toList p.data.toList = b at *
  go_enter Tryd.func38, Tryd.ntmps38
  go_wp2_with fail
  refine HC.out.mono ?_
  rintro e w' ⟨rfl, rfl⟩
  go_wp2
  exact bodyPost_ret (v := .tuple #[.string t, .bool b]) (by simp [results, Tryd.results38, go_sem]) rfl ⟨rfl, rfl⟩
set_option maxRecDepth 100000 in
set_option maxHeartbeats 800000 in
theorem cutPre_any (s p : ByteArray) (w : World) : Calls Tryd.prog 37 #[.string s, .string p] w fun e w' => e = .returned (.tuple #[.string (if Lib.hasPrefix s.data.toList p.data.toList then s.extract p.size s.size else s), .bool (Lib.hasPrefix s.data.toList p.data.toList)]) ∧ w = w' := by
  have key : Calls Tryd.prog 44 #[.string s, .string p] w fun e w' => e = .returned (.tuple #[.string (if Lib.hasPrefix s.data.toList p.data.toList then s.extract p.size s.size else s), .bool (Lib.hasPrefix s.data.toList p.data.toList)]) ∧ w = w' := by
    have HS := mkHid (Tryd.stringslite_HasPrefix s p w)
    cases h : Lib.hasPrefix s.data.toList p.data.toList
    · rw [h] at HS
      clear h
      go_enter Tryd.func44, Tryd.ntmps44
      go_wp2_with fail
      refine HS.out.mono ?_
      rintro e w' ⟨rfl, rfl⟩
      go_wp2
      exact bodyPost_ret (v := .tuple #[.string s, .bool false]) (by simp [results, Tryd.results44, go_sem]) rfl ⟨rfl, rfl⟩
    · rw [h] at HS
      have hle : p.size ≤ s.size := by have := pre_le h; rw [ba_len, ba_len] at this; exact this
      clear h
      go_enter Tryd.func44, Tryd.ntmps44
      go_wp2_with fail
      refine HS.out.mono ?_
      rintro e w' ⟨rfl, rfl⟩
      go_wp2
      exact bodyPost_ret (v := .tuple #[.string (s.extract p.size s.size), .bool true]) (by simp [results, Tryd.results44, go_sem]) rfl ⟨rfl, rfl⟩
  have HC := mkHid key
  clear key
  generalize (if Lib.hasPrefix s.data.toList p.data.toList then s.extract p.size s.size else s) = t at *
  generalize Lib.hasPrefix s.data.toList p.data.toList = b at *
  go_enter Tryd.func37, Tryd.ntmps37
  go_wp2_with fail
  refine HC.out.mono ?_
  rintro e w' ⟨rfl, rfl⟩
  go_wp2
  exact bodyPost_ret (v := .tuple #[.string t, .bool b]) (by simp [results, Tryd.results37, go_sem]) rfl ⟨rfl, rfl⟩
/-- The program's way: what is within the brackets. -/
theorem lab_prog {s u v : ByteArray} (hp : Lib.hasPrefix s.data.toList lenL = true) (hu : u = s.extract 4 s.size) (hs : Lib.hasSuffix u.data.toList [41] = true) (hv : v = u.extract 0 (u.size - 1)) : labB s = nameB v := by
  obtain ⟨q, hq⟩ := List.isPrefixOf_iff_prefix.1 hp
  have ul : u.data.toList = q := by rw [hu, Lib.extract_to_end, ← hq]; rfl
  obtain ⟨k, hk⟩ := List.isSuffixOf_iff_suffix.1 hs
  rw [ul] at hk
  have l1 : s.size = 4 + q.length := by rw [← ba_len, ← hq, List.length_append]; rfl
  have l2 : q.length = k.length + 1 := by rw [← hk, List.length_append]; rfl
  have su : u.size = q.length := by rw [← ba_len, ul]
  have vl : v.data.toList = k := by rw [hv, Lib.extract_data, ul, su, ← hk]; simp
  have h2 : Lib.hasSuffix s.data.toList [41] = true := List.isSuffixOf_iff_suffix.2 ⟨lenL ++ k, by rw [← hq, ← hk, List.append_assoc]⟩
  unfold labB
  by_cases h5 : 5 < s.size
  · rw [hp, h2, decide_eq_true h5]
    simp only [Bool.and_self, if_true]
    congr 1
    apply list_inj
    rw [vl, Lib.extract_data, ← hq, ← hk, show s.size - 1 - 4 = k.length by omega]
    show (List.drop lenL.length (lenL ++ (k ++ [41]))).take k.length = k
    rw [List.drop_left, List.take_left]
  · rw [hp, h2, decide_eq_false h5]
    simp only [Bool.and_false, Bool.false_eq_true, if_false]
    rw [pre_name hp]
    have : k = [] := List.length_eq_zero_iff.1 (by omega)
    have e : v = ⟨#[]⟩ := list_inj (by rw [vl, this])
    rw [e, name_empty]
theorem lab_prog_no {s u : ByteArray} (hp : Lib.hasPrefix s.data.toList lenL = true) (hu : u = s.extract 4 s.size) (hs : Lib.hasSuffix u.data.toList [41] = false) : labB s = false := by
  unfold labB
  split
  · rename_i h
    simp only [Bool.and_eq_true, decide_eq_true_eq] at h
    exfalso
    obtain ⟨q, hq⟩ := List.isPrefixOf_iff_prefix.1 hp
    have ul : u.data.toList = q := by rw [hu, Lib.extract_to_end, ← hq]; rfl
    obtain ⟨k, hk⟩ := List.isSuffixOf_iff_suffix.1 h.2.1
    have l1 : s.size = 4 + q.length := by rw [← ba_len, ← hq, List.length_append]; rfl
    have e : q.getLast? = some 41 := by
      have e1 : s.data.toList.getLast? = some 41 := by rw [← hk, List.getLast?_append]; rfl
      rw [← hq, List.getLast?_append] at e1
      cases hq2 : q with
      | nil => rw [hq2] at l1; simp at l1; omega
      | cons x y => rw [hq2] at e1; simpa using e1
    have : Lib.hasSuffix u.data.toList [41] = true := by
      rw [ul]
      obtain ⟨z, hz⟩ := List.getLast?_eq_some_iff.1 e
      exact List.isSuffixOf_iff_suffix.2 ⟨z, hz.symm⟩
    rw [hs] at this; cases this
  · exact pre_name hp
set_option maxRecDepth 100000 in
set_option maxHeartbeats 800000 in
theorem isLabel_any (s : ByteArray) (w : World) (hs : s.size ≤ 1048576) : Calls Tryd.prog 29 #[.string s] w fun e w' => e = .returned (.bool (labB s)) ∧ Below w.heap.size w w' := by
  have HP := mkHid (fun v => cutPre_any s ⟨#[108, 101, 110, 40]⟩ v)
  have hml : ∀ u : ByteArray, u.size ≤ 1048576 → u.size ≤ maxLen := fun u h => by unfold maxLen; omega
  cases hp : Lib.hasPrefix s.data.toList lenL
  · have E := mkHid (show nameB s = labB s by unfold labB; rw [hp]; rfl)
    have HP2 : Hid (∀ v, Calls Tryd.prog 37 #[.string s, .string ⟨#[108, 101, 110, 40]⟩] v fun e w' => e = .returned (.tuple #[.string s, .bool false]) ∧ v = w') := mkHid fun v => by have := HP.out v; rw [show Lib.hasPrefix s.data.toList (ByteArray.mk #[108, 101, 110, 40]).data.toList = false from hp] at this; exact this
    have HN := mkHid (hml s hs)
    clear hp HP hml
    go_enter Tryd.func29, Tryd.ntmps29
    go_wp2_with fail
    refine (HP2.out _).mono ?_
    rintro e w1 ⟨rfl, rfl⟩
    go_wp2_with fail
    refine (Wd.isName_any s _ HN.out).mono ?_
    rintro e w2 ⟨rfl, hb⟩
    go_wp2
    go_ret
    exact ⟨ret_bool E.out, hb⟩
  · obtain ⟨u, hu⟩ : ∃ u, s.extract 4 s.size = u := ⟨_, rfl⟩
    have HP2 : Hid (∀ v, Calls Tryd.prog 37 #[.string s, .string ⟨#[108, 101, 110, 40]⟩] v fun e w' => e = .returned (.tuple #[.string u, .bool true]) ∧ v = w') := mkHid fun v => by have := HP.out v; rw [show Lib.hasPrefix s.data.toList (ByteArray.mk #[108, 101, 110, 40]).data.toList = true from hp] at this; rw [← hu]; exact this
    have hus : u.size ≤ 1048576 := by rw [← hu]; simp; omega
    have HS := mkHid (fun v => cutSuf_any u ⟨#[41]⟩ v (by omega))
    cases hq : Lib.hasSuffix u.data.toList [41]
    · have E := mkHid (show false = labB s from (lab_prog_no hp hu.symm hq).symm)
      have HS2 : Hid (∀ v, Calls Tryd.prog 38 #[.string u, .string ⟨#[41]⟩] v fun e w' => e = .returned (.tuple #[.string u, .bool false]) ∧ v = w') := mkHid fun v => by have := HS.out v; rw [show Lib.hasSuffix u.data.toList (ByteArray.mk #[41]).data.toList = false from hq] at this; exact this
      clear hp HP hml hu hq HS
      go_enter Tryd.func29, Tryd.ntmps29
      go_wp2_with fail
      refine (HP2.out _).mono ?_
      rintro e w1 ⟨rfl, rfl⟩
      go_wp2_with fail
      refine (HS2.out _).mono ?_
      rintro e w2 ⟨rfl, rfl⟩
      go_wp2
      go_ret
      exact ⟨ret_bool E.out, Below.refl _ _⟩
    · obtain ⟨v, hv⟩ : ∃ v, u.extract 0 (u.size - 1) = v := ⟨_, rfl⟩
      have E := mkHid (show nameB v = labB s from (lab_prog hp hu.symm hq hv.symm).symm)
      have HS2 : Hid (∀ z, Calls Tryd.prog 38 #[.string u, .string ⟨#[41]⟩] z fun e w' => e = .returned (.tuple #[.string v, .bool true]) ∧ z = w') := mkHid fun z => by have := HS.out z; rw [show Lib.hasSuffix u.data.toList (ByteArray.mk #[41]).data.toList = true from hq] at this; rw [← hv]; exact this
      have HN := mkHid (hml v (by rw [← hv]; simp; omega))
      clear hp HP hml hu hq HS hv
      go_enter Tryd.func29, Tryd.ntmps29
      go_wp2_with fail
      refine (HP2.out _).mono ?_
      rintro e w1 ⟨rfl, rfl⟩
      go_wp2_with fail
      refine (HS2.out _).mono ?_
      rintro e w2 ⟨rfl, rfl⟩
      go_wp2_with fail
      refine (Wd.isName_any v _ HN.out).mono ?_
      rintro e w3 ⟨rfl, hb⟩
      go_wp2
      go_ret
      exact ⟨ret_bool E.out, hb⟩
end Go.Proofs.YthfiblldccnjcaaDoor
