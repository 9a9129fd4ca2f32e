/-
  CONTRACT of the specification's l06Int: a number read from its text.
-/
import Derived.Test.YtiihjoliodemmaaDoorPn
import Derived.Test.YtiihjoliodemmaaDoorRtt
import Derived.Deep.Cut
import Derived.Deep.CutRange
namespace Go.Proofs.YtiihjoliodemmaaDoor
open Go.RowKit
open Go.Lib

def digI (r : Int) : Bool := decide (48 ≤ r) && decide (r ≤ 57)
theorem dig_iff (r : Int) : digI r = true ↔ 48 ≤ r ∧ r ≤ 57 := by unfold digI; simp
set_option maxRecDepth 100000 in
theorem sDigit_any (r : Int) (w : World) : Calls Tryd.prog 98 #[.int .u8 r] w fun e w' => e = .returned (.bool (digI r)) ∧ w = w' := by
  unfold digI
  go_enter Tryd.func98, Tryd.ntmps98
  go_wp2
  all_goals (go_ret; exact ⟨ret_bool (by simp_all <;> omega), rfl⟩)

/-- What the text of a number (at most so great) is read as; what is no such text. -/
def IntR (l : List UInt8) (m : Int) : Option Int → Prop
  | some n => l = itoa n ∧ -m ≤ n ∧ n ≤ m
  | none => ∀ n, -m ≤ n → n ≤ m → l ≠ itoa n
/-- A text's sign and what is behind it. -/
def Body (l : List UInt8) (neg : Bool) (ul : List UInt8) : Prop := (neg = true → l = 45 :: ul) ∧ (neg = false → l = ul ∧ l.head? ≠ some 45)
theorem none_of {l ul : List UInt8} {neg : Bool} {m : Int} (hB : Body l neg ul) (h : ∀ k : Nat, ul = decDigits k → (k : Int) ≤ m → (neg = true → 1 ≤ k) → False) : IntR l m none := by
  intro n h0 h1 e
  unfold itoa at e
  by_cases hn : n < 0
  · rw [if_pos hn] at e
    cases neg with
    | false => exact (hB.2 rfl).2 (by rw [e]; rfl)
    | true =>
      have := hB.1 rfl
      rw [e] at this
      have e2 := (List.cons.inj this).2
      exact h n.natAbs e2.symm (by omega) (fun _ => by omega)
  · rw [if_neg hn] at e
    cases neg with
    | false =>
      have := (hB.2 rfl).1
      exact h n.toNat (this.symm.trans e) (by omega) (fun q => by cases q)
    | true =>
      have := hB.1 rfl
      rw [e] at this
      have hb := dec_all n.toNat 45 (by rw [this]; simp)
      revert hb; decide
theorem some_of {l ul : List UInt8} {neg : Bool} {m : Int} {n : Nat} (hB : Body l neg ul) (hne : ul ≠ []) (hd : decFrom 0 ul = some n) (h48 : 1 < ul.length → ul.head? ≠ some 48) (hz : neg = true → ul ≠ [48]) (hn : (n : Int) ≤ m) : IntR l m (some (if neg then -(n : Int) else n)) := by
  have e := dec_of ul n hne hd h48
  cases neg with
  | false =>
    refine ⟨?_, ?_, ?_⟩
    · rw [(hB.2 rfl).1, e]; simp [itoa_nonneg]
    · simp; omega
    · simpa using hn
  | true =>
    have h1 : 1 ≤ n := by
      by_cases q : n = 0
      · subst q
        exact absurd (e.trans (by rw [decDigits, dif_pos (by omega)]; rfl)) (hz rfl)
      · omega
    refine ⟨?_, ?_, ?_⟩
    · rw [hB.1 rfl, e]; simp [itoa_neg n h1]
    · simp; omega
    · simp; omega
theorem dec_take8 {l : List UInt8} {k v : Nat} (h : decFrom 0 (l.take k) = some v) (hk : k ≤ 8) : v < 100000000 := by
  have h1 := decFrom_lt _ _ _ h
  have h2 : (l.take k).length ≤ 8 := by simp; omega
  have h3 : 10 ^ (l.take k).length ≤ 10 ^ 8 := Nat.pow_le_pow_right (by omega) h2
  omega
theorem ba_get {u : ByteArray} {k : Nat} (h : k < u.size) : u.data.toList[k]? = some (u[k]'h) := by
  rw [Array.getElem?_toList]
  exact Array.getElem?_eq_getElem (by exact h)
theorem ba_head {u : ByteArray} (h : 0 < u.size) : u.data.toList.head? = some (u[0]'h) := by
  rw [List.head?_eq_getElem?]; exact ba_get h
theorem ba_len (u : ByteArray) : u.data.toList.length = u.size := by simp
theorem u8_eq {x : UInt8} {n : Nat} (h : (x.toNat : Int) = n) (hn : n < 256) : x = UInt8.ofNat n := by
  apply UInt8.toNat_inj.1
  rw [UInt8.toNat_ofNat']
  omega
theorem ext_tail {s : ByteArray} (h : 0 < s.size) (e : s[0]'h = 45) : s.data.toList = 45 :: (s.extract 1 s.size).data.toList := by
  have e1 : (s.extract 1 s.size).data.toList = s.data.toList.drop 1 := by
    rw [ByteArray.data_extract, Array.toList_extract, List.extract_eq_take_drop]
    rw [List.take_of_length_le (by simp)]
  rw [e1]
  have h2 := ba_head h
  rw [e] at h2
  cases hl : s.data.toList with
  | nil => rw [hl] at h2; cases h2
  | cons x y => rw [hl] at h2; simp at h2; subst h2; rfl
set_option maxRecDepth 100000 in
set_option maxHeartbeats 3200000 in
theorem sInt_any (s : ByteArray) (m : Int) (w : World) (hs : s.size ≤ 9000000000000000000) (hm0 : 0 ≤ m) (hm : m ≤ 1000000) : Calls Tryd.prog 46 #[.string s, .int .i64 m] w fun e w' => ∃ r : Option Int, e = .returned (.tuple #[.int .i64 (r.getD 0), .bool r.isSome]) ∧ IntR s.data.toList m r ∧ w = w' := by
  by_cases h0 : 0 < (s.size : Int)
  · have hz : 0 < s.size := by omega
    cases hm1 : ((((s[0]'hz).toNat : Nat) : Int) == 45)
    · have HB : Hid (Body s.data.toList false s.data.toList) := mkHid ⟨fun e => (by cases e), fun _ => ⟨rfl, fun e => by rw [ba_head hz] at e; rw [Option.some.inj e] at hm1; exact absurd hm1 (by decide)⟩⟩
      go_enter Tryd.func46, Tryd.ntmps46
      by_cases h1 : (s.size : Int) < 1
      · have HN := mkHid (none_of (m := m) HB.out (fun k ek hk hn => by have := dec_ne k; rw [← ek] at this; exact this (List.length_eq_zero_iff.1 (by rw [ba_len]; omega))))
        go_wp2
        exact bodyPost_ret (v := .tuple #[.int .i64 0, .bool false]) (by simp [results, Tryd.results46, go_sem]) rfl ⟨none, rfl, HN.out, rfl⟩
      · by_cases h8 : 8 < (s.size : Int)
        · have HN := mkHid (none_of (m := m) HB.out (fun k ek hk hn => by have := dec_len7 (n := k) (by omega); rw [← ek, ba_len] at this; omega))
          go_wp2
          exact bodyPost_ret (v := .tuple #[.int .i64 0, .bool false]) (by simp [results, Tryd.results46, go_sem]) rfl ⟨none, rfl, HN.out, rfl⟩
        · have hz1 : 0 < s.size := by omega
          by_cases hl : 1 < (s.size : Int) ∧ ((((s[0]'hz1).toNat : Nat) : Int) == 48) = true
          · obtain ⟨hl1, hl2⟩ := hl
            have HN := mkHid (none_of (m := m) HB.out (fun k ek hk hn => by have e1 := ba_head hz1; rw [ek, u8_eq (x := s[0]'hz1) (n := 48) (by simpa using hl2) (by omega)] at e1; by_cases q : k = 0; (· subst q; have := ba_len s; rw [ek, decDigits, dif_pos (by omega)] at this; simp at this; omega); exact dec_head k (by omega) e1))
            go_wp2
            exact bodyPost_ret (v := .tuple #[.int .i64 0, .bool false]) (by simp [results, Tryd.results46, go_sem]) rfl ⟨none, rfl, HN.out, rfl⟩
          · have H48 := mkHid (show 1 < s.data.toList.length → s.data.toList.head? ≠ some 48 from fun h1 h2 => hl ⟨by rw [ba_len] at h1; omega, by rw [ba_head hz1] at h2; rw [Option.some.inj h2]; rfl⟩)
            have hl2 : 1 < (s.size : Int) → ((((s[0]'hz1).toNat : Nat) : Int) == 48) = false := fun hl1 => by cases q : ((((s[0]'hz1).toNat : Nat) : Int) == 48); rfl; exact absurd ⟨hl1, q⟩ hl
            clear hl
            by_cases hl1 : 1 < (s.size : Int)
            all_goals
              first | replace hl2 := hl2 hl1 | clear hl2
              go_wp2
              go_loop [7, 8] (fun n i => ∃ k v : Nat, k ≤ s.size ∧ i = .int .i64 k ∧ n = .int .i64 v ∧ decFrom 0 (s.data.toList.take k) = some v) (fun _ i => s.size - (RowKit.intOf i).toNat)
              case atStart => exact ⟨0, 0, Nat.zero_le _, rfl, rfl, by simp [decFrom]⟩
              case round =>
                obtain ⟨k, v, hks, rfl, rfl, hall⟩ := hrel
                have hv1 := dec_take8 hall (by omega)
                have HA := mkHid hall
                clear hall
                by_cases hlt : k < s.size
                · by_cases g1 : digI (((s[k]'hlt).toNat : Nat) : Int) = true
                  · have hb := (dig_iff _).1 g1
                    have HV := mkHid (decFrom_take s.data.toList k 0 v _ ((s[k]'hlt).toNat - 48) HA.out (ba_get hlt) (by unfold digitVal; rw [if_pos ⟨by omega, by omega⟩]))
                    clear HA
                    go_wp2_with (go_at_call 98; refine (sDigit_any _ _).mono ?_; rintro e w' ⟨rfl, rfl⟩)
                    go_round
                    case rel => exact ⟨k + 1, v * 10 + ((s[k]'hlt).toNat - 48), by omega, by go_num, congrArg (Value.int .i64) (by omega), HV.out⟩
                    case measure => simp [RowKit.intOf]; omega
                  · simp only [Bool.not_eq_true] at g1
                    have HN := mkHid (none_of (m := m) HB.out (fun q ek hk hn => by have := dec_all q (s[k]'hlt) (by rw [← ek]; exact List.mem_of_getElem? (ba_get hlt)); have e2 := (dig_iff (((s[k]'hlt).toNat : Nat) : Int)).2 ⟨by omega, by omega⟩; rw [g1] at e2; cases e2))
                    clear HA
                    go_wp2_with (go_at_call 98; refine (sDigit_any _ _).mono ?_; rintro e w' ⟨rfl, rfl⟩)
                    exact bodyPost_ret (v := .tuple #[.int .i64 0, .bool false]) (by simp [results, Tryd.results46, go_sem]) rfl ⟨none, rfl, HN.out, rfl⟩
                · have HK : Hid (decFrom 0 s.data.toList = some v) := mkHid (by have := HA.out; rw [List.take_of_length_le (by rw [ba_len]; omega)] at this; exact this)
                  clear HA
                  by_cases g2 : m < (v : Int)
                  · have HN := mkHid (none_of (m := m) HB.out (fun q ek hk hn => by have e1 := decFrom_dec q; rw [← ek, HK.out] at e1; have := Option.some.inj e1; omega))
                    go_wp2
                    exact bodyPost_ret (v := .tuple #[.int .i64 0, .bool false]) (by simp [results, Tryd.results46, go_sem]) rfl ⟨none, rfl, HN.out, rfl⟩
                  · have HN := mkHid (some_of (m := m) HB.out (fun e => by have := ba_len s; rw [e] at this; simp at this; omega) HK.out H48.out (fun e => by cases e) (by omega))
                    have HN2 : Hid (IntR s.data.toList m (some ((v : Int)))) := mkHid (by have := HN.out; simpa using this)
                    clear HN HK
                    go_wp2
                    exact bodyPost_ret (v := .tuple #[.int .i64 ((v : Int)), .bool true]) (by simp [results, Tryd.results46, go_sem]) rfl ⟨some ((v : Int)), rfl, HN2.out, rfl⟩
    · go_enter Tryd.func46, Tryd.ntmps46
      go_upto_if 17 with fail
      go_cut [0] from 9 (fun v0 v => ∃ u : ByteArray, v0 = .string u ∧ s.data.toList = 45 :: u.data.toList ∧ v = w)
      case first =>
        go_wp2_with fail
        go_meet
        case rel => exact ⟨_, rfl, ext_tail hz (u8_eq (n := 45) (by simpa using hm1) (by omega)), rfl⟩
      case rest =>
        obtain ⟨u, rfl, hu, rfl⟩ := hcut
        have hus : u.size ≤ 9000000000000000000 := by have e1 := ba_len s; have e2 := ba_len u; rw [hu] at e1; simp only [List.length_cons] at e1; omega
        have HB : Hid (Body s.data.toList true u.data.toList) := mkHid ⟨fun _ => hu, fun e => (by cases e)⟩
        clear hu
        by_cases h1 : (u.size : Int) < 1
        · have HN := mkHid (none_of (m := m) HB.out (fun k ek hk hn => by have := dec_ne k; rw [← ek] at this; exact this (List.length_eq_zero_iff.1 (by rw [ba_len]; omega))))
          go_wp2
          exact bodyPost_ret (v := .tuple #[.int .i64 0, .bool false]) (by simp [results, Tryd.results46, go_sem]) rfl ⟨none, rfl, HN.out, rfl⟩
        · by_cases h8 : 8 < (u.size : Int)
          · have HN := mkHid (none_of (m := m) HB.out (fun k ek hk hn => by have := dec_len7 (n := k) (by omega); rw [← ek, ba_len] at this; omega))
            go_wp2
            exact bodyPost_ret (v := .tuple #[.int .i64 0, .bool false]) (by simp [results, Tryd.results46, go_sem]) rfl ⟨none, rfl, HN.out, rfl⟩
          · have hz1 : 0 < u.size := by omega
            by_cases hl : 1 < (u.size : Int) ∧ ((((u[0]'hz1).toNat : Nat) : Int) == 48) = true
            · obtain ⟨hl1, hl2⟩ := hl
              have HN := mkHid (none_of (m := m) HB.out (fun k ek hk hn => by have e1 := ba_head hz1; rw [ek, u8_eq (x := u[0]'hz1) (n := 48) (by simpa using hl2) (by omega)] at e1; by_cases q : k = 0; (· subst q; have := ba_len u; rw [ek, decDigits, dif_pos (by omega)] at this; simp at this; omega); exact dec_head k (by omega) e1))
              go_wp2
              exact bodyPost_ret (v := .tuple #[.int .i64 0, .bool false]) (by simp [results, Tryd.results46, go_sem]) rfl ⟨none, rfl, HN.out, rfl⟩
            · have H48 := mkHid (show 1 < u.data.toList.length → u.data.toList.head? ≠ some 48 from fun h1 h2 => hl ⟨by rw [ba_len] at h1; omega, by rw [ba_head hz1] at h2; rw [Option.some.inj h2]; rfl⟩)
              have hl2 : 1 < (u.size : Int) → ((((u[0]'hz1).toNat : Nat) : Int) == 48) = false := fun hl1 => by cases q : ((((u[0]'hz1).toNat : Nat) : Int) == 48); rfl; exact absurd ⟨hl1, q⟩ hl
              clear hl
              by_cases h0z : u.toList == [48]
              · have HN := mkHid (none_of (m := m) HB.out (fun k ek hk hn => by have e1 : u.data.toList = [48] := (by rw [← ByteArray.toList_eq]; exact beq_iff_eq.1 h0z); have e2 := decFrom_dec k; rw [← ek, e1] at e2; simp [decFrom, digitVal] at e2; have := hn rfl; omega))
                by_cases hl1 : 1 < (u.size : Int)
                all_goals
                  first | replace hl2 := hl2 hl1 | clear hl2
                  go_wp2
                  exact bodyPost_ret (v := .tuple #[.int .i64 0, .bool false]) (by simp [results, Tryd.results46, go_sem]) rfl ⟨none, rfl, HN.out, rfl⟩
              have HZ := mkHid (show u.data.toList ≠ [48] from fun e => h0z (beq_iff_eq.2 ((ByteArray.toList_eq u).trans e)))
              have h0y : (u.toList == [48]) = false := by cases q : (u.toList == [48]); rfl; exact absurd q h0z
              by_cases hl1 : 1 < (u.size : Int)
              all_goals
                first | replace hl2 := hl2 hl1 | clear hl2
                go_wp2
                go_loop [7, 8] (fun n i => ∃ k v : Nat, k ≤ u.size ∧ i = .int .i64 k ∧ n = .int .i64 v ∧ decFrom 0 (u.data.toList.take k) = some v) (fun _ i => u.size - (RowKit.intOf i).toNat)
                case atStart => exact ⟨0, 0, Nat.zero_le _, rfl, rfl, by simp [decFrom]⟩
                case round =>
                  obtain ⟨k, v, hks, rfl, rfl, hall⟩ := hrel
                  have hv1 := dec_take8 hall (by omega)
                  have HA := mkHid hall
                  clear hall
                  by_cases hlt : k < u.size
                  · by_cases g1 : digI (((u[k]'hlt).toNat : Nat) : Int) = true
                    · have hb := (dig_iff _).1 g1
                      have HV := mkHid (decFrom_take u.data.toList k 0 v _ ((u[k]'hlt).toNat - 48) HA.out (ba_get hlt) (by unfold digitVal; rw [if_pos ⟨by omega, by omega⟩]))
                      clear HA
                      go_wp2_with (go_at_call 98; refine (sDigit_any _ _).mono ?_; rintro e w' ⟨rfl, rfl⟩)
                      go_round
                      case rel => exact ⟨k + 1, v * 10 + ((u[k]'hlt).toNat - 48), by omega, by go_num, congrArg (Value.int .i64) (by omega), HV.out⟩
                      case measure => simp [RowKit.intOf]; omega
                    · simp only [Bool.not_eq_true] at g1
                      have HN := mkHid (none_of (m := m) HB.out (fun q ek hk hn => by have := dec_all q (u[k]'hlt) (by rw [← ek]; exact List.mem_of_getElem? (ba_get hlt)); have e2 := (dig_iff (((u[k]'hlt).toNat : Nat) : Int)).2 ⟨by omega, by omega⟩; rw [g1] at e2; cases e2))
                      clear HA
                      go_wp2_with (go_at_call 98; refine (sDigit_any _ _).mono ?_; rintro e w' ⟨rfl, rfl⟩)
                      exact bodyPost_ret (v := .tuple #[.int .i64 0, .bool false]) (by simp [results, Tryd.results46, go_sem]) rfl ⟨none, rfl, HN.out, rfl⟩
                  · have HK : Hid (decFrom 0 u.data.toList = some v) := mkHid (by have := HA.out; rw [List.take_of_length_le (by rw [ba_len]; omega)] at this; exact this)
                    clear HA
                    by_cases g2 : m < (v : Int)
                    · have HN := mkHid (none_of (m := m) HB.out (fun q ek hk hn => by have e1 := decFrom_dec q; rw [← ek, HK.out] at e1; have := Option.some.inj e1; omega))
                      go_wp2
                      exact bodyPost_ret (v := .tuple #[.int .i64 0, .bool false]) (by simp [results, Tryd.results46, go_sem]) rfl ⟨none, rfl, HN.out, rfl⟩
                    · have HN := mkHid (some_of (m := m) HB.out (fun e => by have := ba_len u; rw [e] at this; simp at this; omega) HK.out H48.out (fun _ => HZ.out) (by omega))
                      have HN2 : Hid (IntR s.data.toList m (some (-(v : Int)))) := mkHid (by have := HN.out; simpa using this)
                      clear HN HK
                      go_wp2
                      exact bodyPost_ret (v := .tuple #[.int .i64 (-(v : Int)), .bool true]) (by simp [results, Tryd.results46, go_sem]) rfl ⟨some (-(v : Int)), rfl, HN2.out, rfl⟩
  · have HN := mkHid (none_of (m := m) (l := s.data.toList) (ul := s.data.toList) (neg := false) ⟨fun e => (by cases e), fun _ => ⟨rfl, fun e => by have := ba_len s; cases h : s.data.toList with | nil => rw [h] at e; cases e | cons x y => rw [h] at this; simp at this; omega⟩⟩ (fun k ek hk hn => by have := dec_ne k; rw [← ek] at this; exact this (List.length_eq_zero_iff.1 (by rw [ba_len]; omega))))
    go_enter Tryd.func46, Tryd.ntmps46
    go_wp2
    exact bodyPost_ret (v := .tuple #[.int .i64 0, .bool false]) (by simp [results, Tryd.results46, go_sem]) rfl ⟨none, rfl, HN.out, rfl⟩
end Go.Proofs.YtiihjoliodemmaaDoor
