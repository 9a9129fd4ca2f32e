/-
  CONTRACT of the specification's l01Digits.
  NUMBERS AS TEXT, with a sign: CONTRACT of the specification's l01Digits at every number within the bounds.
  LAYINGS at this program of some of the library's contracts.
  LABELS: what one is; both sides ask alike.
  CONTRACTS: a label, on both sides.
-/
import Derived.Test.YthfiblldccnjcaaGreatDoorVl
import Derived.Test.YthfiblldccnjcaaGreatDoorShelft
import Derived.Shelf.Strings.Builder1
import Derived.Shelf.Strings.Builder2
import Derived.Shelf.Strings.OnBuilder
import Derived.Shelf.Small.Bits
import Derived.Shelf.Strings.BuilderF
import Derived.Shelf.Strings.BuilderK
import Derived.Shelf.Strings.Builder2Cap
import Derived.Shelf.Strconv.Itoa0
import Derived.Shelf.Strconv.Itoa1
import Derived.Shelf.LaysM
import Derived.Shelf.Strconv.Itoa2
import Derived.Shelf.Strconv.Itoa3
import Derived.Shelf.Strconv.Clone
import Derived.Shelf.Strings.Prefix
import Derived.Shelf.Strings.BuilderCap
import Derived.Ground.Names2Prog
import Derived.Shelf.Slices.SearchI
import Derived.Test.YthfiblldccnjcaaGreatDoorProg
import Derived.Test.YthfiblldccnjcaaGreatDoorWSpecb
import Derived.Lib.IndexBytes
namespace Go.Proofs.YthfiblldccnjcaaGreatDoor
open Go.RowKit

def dec (n : Nat) : ByteArray := ⟨(Lib.decDigits n).toArray⟩
theorem dec_small {n : Nat} (h : n < 10) : dec n = ⟨#[UInt8.ofNat (48 + n)]⟩ := by
  unfold dec
  rw [Lib.decDigits, dif_pos h]
theorem dec_more {n : Nat} (h : ¬ n < 10) : dec n = dec (n / 10) ++ ⟨#[UInt8.ofNat (48 + n % 10)]⟩ := by
  unfold dec
  conv => lhs; rw [Lib.decDigits, dif_neg h]
  apply ByteArray.ext
  simp

theorem dec_size (n : Nat) : (dec n).size ≤ n + 1 := by
  induction n using Nat.strongRecOn with
  | ind n ih =>
    by_cases h : n < 10
    · rw [dec_small h]
      exact Nat.succ_le_succ (Nat.zero_le _)
    · rw [dec_more h, ByteArray.size_append]
      have := ih (n / 10) (by omega)
      have e : (ByteArray.mk #[UInt8.ofNat (48 + n % 10)]).size = 1 := rfl
      omega

/-- One byte of a digit, as a string. -/
theorem conv_one (d b : Nat) (w : World) (hd : d < 10) (hc : w.cell? ⟨b, 0, none⟩ = some (.int .u8 (48 + (d : Int)))) :
    Sem.run Tryz.prog (convert 82 9 (.slice (some ⟨b, 0, none⟩) 1 1)) w = .ok (.string ⟨#[UInt8.ofNat (48 + d)]⟩) w := by
  refine run_convert_bytes_back (P := Tryz.prog) w 82 9 5 ⟨b, 0, none⟩ 1 [UInt8.ofNat (48 + d)] Tryz.underlying82 Tryz.underlying5 Tryz.underlying9 (fun i hi => ?_)
  have e : i = 0 := by simpa using hi
  subst e
  rw [WideShapes.add_plain]
  have h : (UInt8.ofNat (48 + d)).toNat = 48 + d := by
    rw [UInt8.toNat_ofNat']
    omega
  simp only [List.getElem_cons_zero, h]
  rw [hc]
  rfl

set_option maxRecDepth 100000 in
set_option maxHeartbeats 1600000 in
theorem digits_any : ∀ (n : Nat) (w : World), n ≤ 4000000 → Calls Tryz.prog 59 #[.int .i64 n] w fun e w' => e = .returned (.string (dec n)) ∧ Below w.heap.size w w' := by
  intro n
  induction n using Nat.strongRecOn with
  | ind n ih =>
    intro w hn
    have h0 : (0 : Int) ≤ (n : Int) := by omega
    by_cases h : n < 10
    · clear ih
      have hconv := conv_one n w.heap.size (w.alloc (.cells #[.int .u8 (48 + (n : Int))] 5)) h (by simp [go_sem])
      rw [dec_small h]
      generalize UInt8.ofNat (48 + n) = x at hconv ⊢
      go_enter Tryz.func59, Tryz.ntmps59
      go_wp2
      go_ret
      exact ⟨rfl, (Below.refl _ _).alloc (Nat.le_refl _) _⟩
    · have h1 : (10 : Int) ≤ (n : Int) := by omega
      have HD := mkHid (dec_more h)
      obtain ⟨q, hq⟩ : ∃ q, q = n / 10 := ⟨_, rfl⟩
      obtain ⟨r, hr⟩ : ∃ r, r = n % 10 := ⟨_, rfl⟩
      rw [← hq, ← hr] at HD
      have hq' : Int.tdiv (n : Int) 10 = (q : Int) := by rw [Int.tdiv_eq_ediv_of_nonneg h0]; omega
      have hr' : Int.tmod (n : Int) 10 = (r : Int) := by rw [Int.tmod_eq_emod_of_nonneg h0]; omega
      have hr9 : (r : Int) < 10 := by omega
      have hr0 : (0 : Int) ≤ (r : Int) := by omega
      have HI := mkHid (fun W => ih q (by omega) W (by omega))
      have hconv := fun b W => conv_one r b W (by omega)
      generalize UInt8.ofNat (48 + r) = x at hconv HD
      have wq : IntKind.i64.wrap (q : Int) = (q : Int) := by rw [IntKind.wrap_i64]; omega
      have wr : IntKind.i64.wrap (r : Int) = (r : Int) := by rw [IntKind.wrap_i64]; omega
      have ws : IntKind.i64.wrap (48 + (r : Int)) = 48 + (r : Int) := by rw [IntKind.wrap_i64]; omega
      have wu : IntKind.u8.wrap (48 + (r : Int)) = 48 + (r : Int) := by rw [IntKind.wrap_u8]; omega
      have hds := dec_size q
      have hqs : (dec q).size ≤ 4000001 := by omega
      clear ih hq hr hds
      go_enter Tryz.func59, Tryz.ntmps59
      go_wp2_with fail
      go_region_with (first | (go_at_call 59; refine (HI.out _).mono ?_; rintro e w1 ⟨rfl, hb1⟩; obtain ⟨hc, hf⟩ := bcell hb1))
      all_goals clear hc hf
      all_goals go_wp2
      all_goals go_ret
      all_goals refine ⟨by rw [HD.out]; rfl, ?_⟩
      all_goals first | exact (below_step (Below.refl w.heap.size w).drew hb1).alloc (hb1.size) _ | exact below_step (((Below.refl w.heap.size w).alloc (Nat.le_refl _) _).drew) hb1
end Go.Proofs.YthfiblldccnjcaaGreatDoor
namespace Go.Proofs.YthfiblldccnjcaaGreatDoor
open Go.RowKit

def dI (n : Int) : ByteArray := ⟨(Lib.itoa n).toArray⟩
theorem dI_nat (n : Nat) : dI (n : Int) = dec n := by
  unfold dI dec Lib.itoa
  rw [if_neg (by omega)]
  simp
theorem dI_neg (m : Nat) (h : 1 ≤ m) : dI (-(m : Int)) = ⟨#[45]⟩ ++ dec m := by
  unfold dI dec Lib.itoa
  rw [if_pos (by omega)]
  apply ByteArray.ext
  simp
theorem dI_size (n : Int) (h0 : -4000000 ≤ n) (h1 : n ≤ 4000000) : (dI n).size ≤ 4000002 := by
  by_cases h : 0 ≤ n
  · obtain ⟨k, rfl⟩ : ∃ k : Nat, n = k := ⟨n.toNat, by omega⟩
    rw [dI_nat]
    have := dec_size k
    omega
  · obtain ⟨k, rfl⟩ : ∃ k : Nat, n = -(k : Int) := ⟨(-n).toNat, by omega⟩
    rw [dI_neg k (by omega), ByteArray.size_append]
    have := dec_size k
    have e : (ByteArray.mk #[45]).size = 1 := rfl
    omega

set_option maxRecDepth 100000 in
set_option maxHeartbeats 1600000 in
theorem digitsI_any (n : Int) (w : World) (h0 : -4000000 ≤ n) (h1 : n ≤ 4000000) : Calls Tryz.prog 59 #[.int .i64 n] w fun e w' => e = .returned (.string (dI n)) ∧ Below w.heap.size w w' := by
  by_cases h : 0 ≤ n
  · obtain ⟨k, rfl⟩ : ∃ k : Nat, n = k := ⟨n.toNat, by omega⟩
    rw [dI_nat]
    exact digits_any k w (by omega)
  · obtain ⟨m, rfl⟩ : ∃ k : Nat, n = -(k : Int) := ⟨(-n).toNat, by omega⟩
    have hm : 1 ≤ m := by omega
    by_cases h9 : m ≤ 9
    · have E := mkHid (dI_neg m hm)
      have hs := dec_size m
      have hs2 : (dec m).size ≤ 4000001 := by omega
      have HC := mkHid (fun W => digits_any m W (by omega))
      have k1 : ¬ (-(m : Int) < -9) := by omega
      have k2 : -(m : Int) < 0 := by omega
      have k3 : IntKind.i64.wrap (- -(m : Int)) = (m : Int) := by rw [IntKind.wrap_i64]; omega
      clear hs h h0 h1
      go_enter Tryz.func59, Tryz.ntmps59
      go_wp2_with (go_at_call 59; refine (HC.out _).mono ?_; rintro e w1 ⟨rfl, hb1⟩)
      go_ret
      exact ⟨by rw [E.out]; rfl, hb1⟩
    · obtain ⟨q, hq⟩ : ∃ q, q = m / 10 := ⟨_, rfl⟩
      obtain ⟨r, hr⟩ : ∃ r, r = m % 10 := ⟨_, rfl⟩
      have E := mkHid (show dI (-(m : Int)) = (⟨#[45]⟩ ++ dec q) ++ dec r by
        rw [dI_neg m hm, dec_more (by omega), ← hq, ← hr, dec_small (n := r) (by omega)]
        apply ByteArray.ext
        simp)
      have e1 : (-(m : Int)).tdiv 10 = -(q : Int) := by rw [Int.neg_tdiv, Int.tdiv_eq_ediv_of_nonneg (by omega)]; omega
      have e2 : (-(m : Int)).tmod 10 = -(r : Int) := by rw [Int.neg_tmod, Int.tmod_eq_emod_of_nonneg (by omega)]; omega
      have hq1 : q ≤ 400000 := by omega
      have hr1 : r ≤ 9 := by omega
      have hs := dec_size q
      have hs2 : (dec q).size ≤ 4000001 := by omega
      have hs3 := dec_size r
      have hs4 : (dec r).size ≤ 4000001 := by omega
      have k1 : (-(m : Int) < -9) := by omega
      have k3 : IntKind.i64.wrap (- -(q : Int)) = (q : Int) := by rw [IntKind.wrap_i64]; omega
      have k4 : IntKind.i64.wrap (- -(r : Int)) = (r : Int) := by rw [IntKind.wrap_i64]; omega
      have k5 : IntKind.i64.wrap (-(q : Int)) = -(q : Int) := by rw [IntKind.wrap_i64]; omega
      have k6 : IntKind.i64.wrap (-(r : Int)) = -(r : Int) := by rw [IntKind.wrap_i64]; omega
      clear hs hs3 h h0 h1 hq hr
      go_enter Tryz.func59, Tryz.ntmps59
      go_wp2_with (go_at_call 59; refine (digits_any _ _ (by omega)).mono ?_; rintro e w1 ⟨rfl, hb1⟩)
      go_ret
      exact ⟨by rw [E.out]; rfl, (by repeat (first | with_reducible exact Below.refl _ _ | with_reducible refine below_step ?_ (by assumption)))⟩
theorem ba_get {u : ByteArray} {k : Nat} (h : k < u.size) : u.data.toList[k]? = some (u[k]'h) := by
  rw [Array.getElem?_toList]
  exact Array.getElem?_eq_getElem (by exact h)
theorem ba_len (u : ByteArray) : u.data.toList.length = u.size := by simp
theorem list_inj {a b : ByteArray} (h : a.data.toList = b.data.toList) : a = b := by
  apply ByteArray.ext
  exact Array.toList_inj.1 h
end Go.Proofs.YthfiblldccnjcaaGreatDoor
namespace Go.Proofs.YthfiblldccnjcaaGreatDoor
open Go.Shelf
def Tryz.laysM316_ren : Go.Shelf.Ren := ⟨fun | 316 => 110 | n => n, fun | 9 => 9 | 3 => 3 | 4 => 4 | 37 => 82 | 0 => 0 | 127 => 111 | 5 => 5 | n => n, fun | n => n⟩
theorem Tryz.laysM316 : Go.Proofs.LaysM.n316 Tryz.prog Tryz.laysM316_ren := {
  mixed := by kernel_rfl
  f316 := Tryz.func110.trans (congrArg some (by kernel_rfl))
  t0 := Tryz.underlying0
  a0 := Tryz.isAgg0
  z0 := Tryz.sizeOf0
  v0 := Tryz.zeroValue0
  t3 := Tryz.underlying3
  a3 := Tryz.isAgg3
  z3 := Tryz.sizeOf3
  v3 := Tryz.zeroValue3
  t4 := Tryz.underlying4
  a4 := Tryz.isAgg4
  z4 := Tryz.sizeOf4
  v4 := Tryz.zeroValue4
  t9 := Tryz.underlying9
  a9 := Tryz.isAgg9
  z9 := Tryz.sizeOf9
  v9 := Tryz.zeroValue9
  t37 := Tryz.underlying82
  a37 := Tryz.isAgg82
  z37 := Tryz.sizeOf82
  v37 := Tryz.zeroValue82
  t127 := Tryz.underlying111
  a127 := Tryz.isAgg111
  z127 := Tryz.sizeOf111
  v127 := Tryz.zeroValue111
  t5 := Tryz.underlying5
  a5 := Tryz.isAgg5
  z5 := Tryz.sizeOf5
  v5 := Tryz.zeroValue5
  i0 := by kernel_rfl
  i3 := by kernel_rfl
  i4 := by kernel_rfl
  i5 := by kernel_rfl
  i9 := by kernel_rfl
  i37 := by kernel_rfl
  i127 := by kernel_rfl }
open Go.RowKit in
theorem Tryz.stringslite_Clone (s : ByteArray) (w : World) (hlim : s.size ≤ 281474976710656) :
    Calls Tryz.prog 110 #[.string s] w fun e w' => e = .returned (.string s) ∧ Below w.heap.size w w' := Any.stringslite_Clone Tryz.laysM316 s w hlim
def Tryz.lays206_ren : Go.Shelf.Ren := ⟨fun | 206 => 103 | n => n, fun | 9 => 9 | 4 => 4 | 3 => 3 | n => n, fun | n => n⟩
theorem Tryz.lays206 : Go.Proofs.Lays.n206 Tryz.prog Tryz.lays206_ren := {
  mixed := by kernel_rfl
  f206 := Tryz.func103.trans (congrArg some (by kernel_rfl))
  t3 := Tryz.underlying3
  a3 := Tryz.isAgg3
  z3 := Tryz.sizeOf3
  v3 := Tryz.zeroValue3
  t4 := Tryz.underlying4
  a4 := Tryz.isAgg4
  z4 := Tryz.sizeOf4
  v4 := Tryz.zeroValue4
  t9 := Tryz.underlying9
  a9 := Tryz.isAgg9
  z9 := Tryz.sizeOf9
  v9 := Tryz.zeroValue9 }
open Go.RowKit Go.Lib in
theorem Tryz.stringslite_HasPrefix (s p : ByteArray) (w : World) :
    Calls Tryz.prog 103 #[.string s, .string p] w fun e w' => e = .returned (.bool (Lib.hasPrefix s.data.toList p.data.toList)) ∧ w' = w := Any.stringslite_HasPrefix Tryz.lays206 s p w
def Tryz.lays207_ren : Go.Shelf.Ren := ⟨fun | 207 => 104 | n => n, fun | 9 => 9 | 4 => 4 | 3 => 3 | n => n, fun | n => n⟩
theorem Tryz.lays207 : Go.Proofs.Lays.n207 Tryz.prog Tryz.lays207_ren := {
  mixed := by kernel_rfl
  f207 := Tryz.func104.trans (congrArg some (by kernel_rfl))
  t3 := Tryz.underlying3
  a3 := Tryz.isAgg3
  z3 := Tryz.sizeOf3
  v3 := Tryz.zeroValue3
  t4 := Tryz.underlying4
  a4 := Tryz.isAgg4
  z4 := Tryz.sizeOf4
  v4 := Tryz.zeroValue4
  t9 := Tryz.underlying9
  a9 := Tryz.isAgg9
  z9 := Tryz.sizeOf9
  v9 := Tryz.zeroValue9 }
open Go.RowKit Go.Lib in
theorem Tryz.stringslite_HasSuffix (s p : ByteArray) (w : World) (hs : s.size ≤ 9223372036854775807) :
    Calls Tryz.prog 104 #[.string s, .string p] w fun e w' => e = .returned (.bool (Lib.hasSuffix s.data.toList p.data.toList)) ∧ w' = w := Any.stringslite_HasSuffix Tryz.lays207 s p w hs
end Go.Proofs.YthfiblldccnjcaaGreatDoor
namespace Go.Proofs.YthfiblldccnjcaaGreatDoor
open Go.RowKit
open Wd.Pl (nameB byt)

def lenL : List UInt8 := [108, 101, 110, 40]
/-- A label: a name, or len( a name ). -/
def labB (s : ByteArray) : Bool := if Lib.hasPrefix s.data.toList lenL && (Lib.hasSuffix s.data.toList [41] && decide (5 < s.size)) then nameB (s.extract 4 (s.size - 1)) else nameB s
theorem name_bad {s : ByteArray} {k : Nat} (hk : k < s.size) (h1 : ¬ (97 ≤ byt s k ∧ byt s k ≤ 122)) (h2 : ¬ (48 ≤ byt s k ∧ byt s k ≤ 57)) : nameB s = false := by
  cases h : nameB s
  · rfl
  · have hp : Wd.Pl.nameP s := by unfold nameB at h; exact @of_decide_eq_true _ (Wd.Pl.namePD s) h
    rcases hp.2.2.2 k hk with q | ⟨_, q⟩
    · exact absurd ((Wd.Pl.low_iff _).1 q) h1
    · exact absurd ((Wd.Pl.dig_iff _).1 q) h2
theorem byt_list {s : ByteArray} {k : Nat} {c : UInt8} (h : s.data.toList[k]? = some c) : k < s.size ∧ byt s k = (c.toNat : Int) := by
  have hk : k < s.size := by have := (List.getElem?_eq_some_iff.1 h).1; rw [ba_len] at this; exact this
  refine ⟨hk, ?_⟩
  rw [Wd.Pl.byt_eq s k hk]
  rw [ba_get hk] at h
  rw [Option.some.inj h]
theorem pre_name {s : ByteArray} (h : Lib.hasPrefix s.data.toList lenL = true) : nameB s = false := by
  obtain ⟨q, hq⟩ := List.isPrefixOf_iff_prefix.1 h
  have e : s.data.toList[3]? = some 40 := by rw [← hq]; rfl
  obtain ⟨h1, h2⟩ := byt_list e
  exact name_bad h1 (by rw [h2]; decide) (by rw [h2]; decide)
theorem name_empty : nameB ⟨#[]⟩ = false := by
  cases h : nameB ⟨#[]⟩
  · rfl
  · have hp : Wd.Pl.nameP ⟨#[]⟩ := by unfold nameB at h; exact @of_decide_eq_true _ (Wd.Pl.namePD _) h
    have h0 : (ByteArray.mk #[]).size = 0 := rfl
    have := hp.1
    omega
end Go.Proofs.YthfiblldccnjcaaGreatDoor
namespace Go.Proofs.YthfiblldccnjcaaGreatDoor
open Go.RowKit
open Wd.Pl (nameB byt)

theorem suf_le {l p : List UInt8} (h : Lib.hasSuffix l p = true) : p.length ≤ l.length := by
  obtain ⟨q, hq⟩ := List.isSuffixOf_iff_suffix.1 h
  rw [← hq, List.length_append]; omega
theorem pre_le {l p : List UInt8} (h : Lib.hasPrefix l p = true) : p.length ≤ l.length := by
  obtain ⟨q, hq⟩ := List.isPrefixOf_iff_prefix.1 h
  rw [← hq, List.length_append]; omega
set_option maxRecDepth 100000 in
set_option maxHeartbeats 800000 in
theorem cutSuf_any (s p : ByteArray) (w : World) (hs : s.size ≤ 9000000000000000000) : Calls Tryz.prog 67 #[.string s, .string p] w fun e w' => e = .returned (.tuple #[.string (if Lib.hasSuffix s.data.toList p.data.toList then s.extract 0 (s.size - p.size) else s), .bool (Lib.hasSuffix s.data.toList p.data.toList)]) ∧ w = w' := by
  have key : Calls Tryz.prog 86 #[.string s, .string p] w fun e w' => e = .returned (.tuple #[.string (if Lib.hasSuffix s.data.toList p.data.toList then s.extract 0 (s.size - p.size) else s), .bool (Lib.hasSuffix s.data.toList p.data.toList)]) ∧ w = w' := by
    have HS := mkHid (Tryz.stringslite_HasSuffix s p w (by omega))
    cases h : Lib.hasSuffix s.data.toList p.data.toList
    · rw [h] at HS
      clear h
      go_enter Tryz.func86, Tryz.ntmps86
      go_wp2_with fail
      refine HS.out.mono ?_
      rintro e w' ⟨rfl, rfl⟩
      go_wp2
      exact bodyPost_ret (v := .tuple #[.string s, .bool false]) (by simp [results, Tryz.results86, go_sem]) rfl ⟨rfl, rfl⟩
    · rw [h] at HS
      have hle : p.size ≤ s.size := by have := suf_le h; rw [ba_len, ba_len] at this; exact this
      clear h
      have hw : IntKind.i64.wrap ((s.size : Int) - (p.size : Int)) = ((s.size - p.size : Nat) : Int) := by rw [IntWalk.i64_in _ ⟨by omega, by omega⟩]; omega
      have hle2 : s.size - p.size ≤ s.size := by omega
      go_enter Tryz.func86, Tryz.ntmps86
      go_wp2_with fail
      refine HS.out.mono ?_
      rintro e w' ⟨rfl, rfl⟩
      go_wp2
      exact bodyPost_ret (v := .tuple #[.string (s.extract 0 (s.size - p.size)), .bool true]) (by simp [results, Tryz.results86, go_sem]) rfl ⟨rfl, rfl⟩
  have HC := mkHid key
  clear key
  generalize (if Lib.hasSuffix s.data.toList p.data.toList then s.extract 0 (s.size - p.size) else s) = t at *
  generalize Lib.hasSuffix s.data.toList p.data.toList = b at *
  go_enter Tryz.func67, Tryz.ntmps67
  go_wp2_with fail
  refine HC.out.mono ?_
  rintro e w' ⟨rfl, rfl⟩
  go_wp2
  exact bodyPost_ret (v := .tuple #[.string t, .bool b]) (by simp [results, Tryz.results67, go_sem]) rfl ⟨rfl, rfl⟩
set_option maxRecDepth 100000 in
set_option maxHeartbeats 800000 in
theorem cutPre_any (s p : ByteArray) (w : World) : Calls Tryz.prog 66 #[.string s, .string p] w fun e w' => e = .returned (.tuple #[.string (if Lib.hasPrefix s.data.toList p.data.toList then s.extract p.size s.size else s), .bool (Lib.hasPrefix s.data.toList p.data.toList)]) ∧ w = w' := by
  have key : Calls Tryz.prog 85 #[.string s, .string p] w fun e w' => e = .returned (.tuple #[.string (if Lib.hasPrefix s.data.toList p.data.toList then s.extract p.size s.size else s), .bool (Lib.hasPrefix s.data.toList p.data.toList)]) ∧ w = w' := by
    have HS := mkHid (Tryz.stringslite_HasPrefix s p w)
    cases h : Lib.hasPrefix s.data.toList p.data.toList
    · rw [h] at HS
      clear h
      go_enter Tryz.func85, Tryz.ntmps85
      go_wp2_with fail
      refine HS.out.mono ?_
      rintro e w' ⟨rfl, rfl⟩
      go_wp2
      exact bodyPost_ret (v := .tuple #[.string s, .bool false]) (by simp [results, Tryz.results85, go_sem]) rfl ⟨rfl, rfl⟩
    · rw [h] at HS
      have hle : p.size ≤ s.size := by have := pre_le h; rw [ba_len, ba_len] at this; exact this
      clear h
      go_enter Tryz.func85, Tryz.ntmps85
      go_wp2_with fail
      refine HS.out.mono ?_
      rintro e w' ⟨rfl, rfl⟩
      go_wp2
      exact bodyPost_ret (v := .tuple #[.string (s.extract p.size s.size), .bool true]) (by simp [results, Tryz.results85, go_sem]) rfl ⟨rfl, rfl⟩
  have HC := mkHid key
  clear key
  generalize (if Lib.hasPrefix s.data.toList p.data.toList then s.extract p.size s.size else s) = t at *
  generalize Lib.hasPrefix s.data.toList p.data.toList = b at *
  go_enter Tryz.func66, Tryz.ntmps66
  go_wp2_with fail
  refine HC.out.mono ?_
  rintro e w' ⟨rfl, rfl⟩
  go_wp2
  exact bodyPost_ret (v := .tuple #[.string t, .bool b]) (by simp [results, Tryz.results66, go_sem]) rfl ⟨rfl, rfl⟩
/-- The program's way: what is within the brackets. -/
theorem lab_prog {s u v : ByteArray} (hp : Lib.hasPrefix s.data.toList lenL = true) (hu : u = s.extract 4 s.size) (hs : Lib.hasSuffix u.data.toList [41] = true) (hv : v = u.extract 0 (u.size - 1)) : labB s = nameB v := by
  obtain ⟨q, hq⟩ := List.isPrefixOf_iff_prefix.1 hp
  have ul : u.data.toList = q := by rw [hu, Lib.extract_to_end, ← hq]; rfl
  obtain ⟨k, hk⟩ := List.isSuffixOf_iff_suffix.1 hs
  rw [ul] at hk
  have l1 : s.size = 4 + q.length := by rw [← ba_len, ← hq, List.length_append]; rfl
  have l2 : q.length = k.length + 1 := by rw [← hk, List.length_append]; rfl
  have su : u.size = q.length := by rw [← ba_len, ul]
  have vl : v.data.toList = k := by rw [hv, Lib.extract_data, ul, su, ← hk]; simp
  have h2 : Lib.hasSuffix s.data.toList [41] = true := List.isSuffixOf_iff_suffix.2 ⟨lenL ++ k, by rw [← hq, ← hk, List.append_assoc]⟩
  unfold labB
  by_cases h5 : 5 < s.size
  · rw [hp, h2, decide_eq_true h5]
    simp only [Bool.and_self, if_true]
    congr 1
    apply list_inj
    rw [vl, Lib.extract_data, ← hq, ← hk, show s.size - 1 - 4 = k.length by omega]
    show (List.drop lenL.length (lenL ++ (k ++ [41]))).take k.length = k
    rw [List.drop_left, List.take_left]
  · rw [hp, h2, decide_eq_false h5]
    simp only [Bool.and_false, Bool.false_eq_true, if_false]
    rw [pre_name hp]
    have : k = [] := List.length_eq_zero_iff.1 (by omega)
    have e : v = ⟨#[]⟩ := list_inj (by rw [vl, this])
    rw [e, name_empty]
theorem lab_prog_no {s u : ByteArray} (hp : Lib.hasPrefix s.data.toList lenL = true) (hu : u = s.extract 4 s.size) (hs : Lib.hasSuffix u.data.toList [41] = false) : labB s = false := by
  unfold labB
  split
  · rename_i h
    simp only [Bool.and_eq_true, decide_eq_true_eq] at h
    exfalso
    obtain ⟨q, hq⟩ := List.isPrefixOf_iff_prefix.1 hp
    have ul : u.data.toList = q := by rw [hu, Lib.extract_to_end, ← hq]; rfl
    obtain ⟨k, hk⟩ := List.isSuffixOf_iff_suffix.1 h.2.1
    have l1 : s.size = 4 + q.length := by rw [← ba_len, ← hq, List.length_append]; rfl
    have e : q.getLast? = some 41 := by
      have e1 : s.data.toList.getLast? = some 41 := by rw [← hk, List.getLast?_append]; rfl
      rw [← hq, List.getLast?_append] at e1
      cases hq2 : q with
      | nil => rw [hq2] at l1; simp at l1; omega
      | cons x y => rw [hq2] at e1; simpa using e1
    have : Lib.hasSuffix u.data.toList [41] = true := by
      rw [ul]
      obtain ⟨z, hz⟩ := List.getLast?_eq_some_iff.1 e
      exact List.isSuffixOf_iff_suffix.2 ⟨z, hz.symm⟩
    rw [hs] at this; cases this
  · exact pre_name hp
set_option maxRecDepth 100000 in
set_option maxHeartbeats 800000 in
theorem isLabel_any (s : ByteArray) (w : World) (hs : s.size ≤ 1048576) : Calls Tryz.prog 45 #[.string s] w fun e w' => e = .returned (.bool (labB s)) ∧ Below w.heap.size w w' := by
  have HP := mkHid (fun v => cutPre_any s ⟨#[108, 101, 110, 40]⟩ v)
  have hml : ∀ u : ByteArray, u.size ≤ 1048576 → u.size ≤ maxLen := fun u h => by unfold maxLen; omega
  cases hp : Lib.hasPrefix s.data.toList lenL
  · have E := mkHid (show nameB s = labB s by unfold labB; rw [hp]; rfl)
    have HP2 : Hid (∀ v, Calls Tryz.prog 66 #[.string s, .string ⟨#[108, 101, 110, 40]⟩] v fun e w' => e = .returned (.tuple #[.string s, .bool false]) ∧ v = w') := mkHid fun v => by have := HP.out v; rw [show Lib.hasPrefix s.data.toList (ByteArray.mk #[108, 101, 110, 40]).data.toList = false from hp] at this; exact this
    have HN := mkHid (hml s hs)
    clear hp HP hml
    go_enter Tryz.func45, Tryz.ntmps45
    go_wp2_with fail
    refine (HP2.out _).mono ?_
    rintro e w1 ⟨rfl, rfl⟩
    go_wp2_with fail
    refine (Wd.isName_any s _ HN.out).mono ?_
    rintro e w2 ⟨rfl, hb⟩
    go_wp2
    go_ret
    exact ⟨ret_bool E.out, hb⟩
  · obtain ⟨u, hu⟩ : ∃ u, s.extract 4 s.size = u := ⟨_, rfl⟩
    have HP2 : Hid (∀ v, Calls Tryz.prog 66 #[.string s, .string ⟨#[108, 101, 110, 40]⟩] v fun e w' => e = .returned (.tuple #[.string u, .bool true]) ∧ v = w') := mkHid fun v => by have := HP.out v; rw [show Lib.hasPrefix s.data.toList (ByteArray.mk #[108, 101, 110, 40]).data.toList = true from hp] at this; rw [← hu]; exact this
    have hus : u.size ≤ 1048576 := by rw [← hu]; simp; omega
    have HS := mkHid (fun v => cutSuf_any u ⟨#[41]⟩ v (by omega))
    cases hq : Lib.hasSuffix u.data.toList [41]
    · have E := mkHid (show false = labB s from (lab_prog_no hp hu.symm hq).symm)
      have HS2 : Hid (∀ v, Calls Tryz.prog 67 #[.string u, .string ⟨#[41]⟩] v fun e w' => e = .returned (.tuple #[.string u, .bool false]) ∧ v = w') := mkHid fun v => by have := HS.out v; rw [show Lib.hasSuffix u.data.toList (ByteArray.mk #[41]).data.toList = false from hq] at this; exact this
      clear hp HP hml hu hq HS
      go_enter Tryz.func45, Tryz.ntmps45
      go_wp2_with fail
      refine (HP2.out _).mono ?_
      rintro e w1 ⟨rfl, rfl⟩
      go_wp2_with fail
      refine (HS2.out _).mono ?_
      rintro e w2 ⟨rfl, rfl⟩
      go_wp2
      go_ret
      exact ⟨ret_bool E.out, Below.refl _ _⟩
    · obtain ⟨v, hv⟩ : ∃ v, u.extract 0 (u.size - 1) = v := ⟨_, rfl⟩
      have E := mkHid (show nameB v = labB s from (lab_prog hp hu.symm hq hv.symm).symm)
      have HS2 : Hid (∀ z, Calls Tryz.prog 67 #[.string u, .string ⟨#[41]⟩] z fun e w' => e = .returned (.tuple #[.string v, .bool true]) ∧ z = w') := mkHid fun z => by have := HS.out z; rw [show Lib.hasSuffix u.data.toList (ByteArray.mk #[41]).data.toList = true from hq] at this; rw [← hv]; exact this
      have HN := mkHid (hml v (by rw [← hv]; simp; omega))
      clear hp HP hml hu hq HS hv
      go_enter Tryz.func45, Tryz.ntmps45
      go_wp2_with fail
      refine (HP2.out _).mono ?_
      rintro e w1 ⟨rfl, rfl⟩
      go_wp2_with fail
      refine (HS2.out _).mono ?_
      rintro e w2 ⟨rfl, rfl⟩
      go_wp2_with fail
      refine (Wd.isName_any v _ HN.out).mono ?_
      rintro e w3 ⟨rfl, hb⟩
      go_wp2
      go_ret
      exact ⟨ret_bool E.out, hb⟩
end Go.Proofs.YthfiblldccnjcaaGreatDoor
