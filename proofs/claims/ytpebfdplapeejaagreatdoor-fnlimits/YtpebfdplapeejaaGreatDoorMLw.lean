/-
  THE LAW FnLimits, case by case: chains of minus signs, many statements.
  THE LAW FnLimits, case by case: an array just as long as may be, and one longer.
  FnLimits holds at every argument, the tables of the library, the handle of the type error and the two errors of strconv being as the text lays them (the card ties them to it): what is just at a limit is taken, what is one past it is refused. No other conditions.
-/
import Derived.Test.YtpebfdplapeejaaGreatDoorMWrow
import Derived.Test.YtpebfdplapeejaaGreatDoorMPu
import Derived.Test.YtpebfdplapeejaaGreatDoorMPw
import Derived.Deep.AppendLies
import Derived.Deep.LoopGhost
import Derived.Laws.IdiomStrings
import Derived.Laws.OwnMore
import Derived.Test.YtpebfdplapeejaaGreatDoorMGrove
import Derived.WalkArith
namespace Go.Proofs.YtpebfdplapeejaaGreatDoor
open Go.RowKit
open Pl

theorem mk_app (a b : List UInt8) : ByteArray.mk a.toArray ++ ByteArray.mk b.toArray = ByteArray.mk (a ++ b).toArray := by
  exact ByteArray.mk_append_mk a b
theorem txM_snoc (k : Nat) : ByteArray.mk (txM k).toArray ++ ⟨#[45]⟩ = ⟨(txM (k + 1)).toArray⟩ := by
  rw [show (⟨#[45]⟩ : ByteArray) = ⟨([45] : List UInt8).toArray⟩ from rfl, mk_app]
  unfold txM
  rw [List.append_assoc, rep_snoc]
theorem txS_snoc (k : Nat) : ByteArray.mk (txS k).toArray ++ ⟨#[115, 107, 105, 112, 59, 32]⟩ = ⟨(txS (k + 1)).toArray⟩ := by
  rw [show (⟨#[115, 107, 105, 112, 59, 32]⟩ : ByteArray) = ⟨([115, 107, 105, 112, 59, 32] : List UInt8).toArray⟩ from rfl, mk_app]
  unfold txS
  rw [List.append_assoc, rep_snoc]
set_option maxRecDepth 100000 in
set_option maxHeartbeats 6400000 in
theorem case3 (q : Int) (hq : q = 0 ∨ q = 1) (a : Option Addr) (n c : Nat) (w : World)
  (HB : Calls Tryz.prog 4 #[.slice a n c] w fun e w' => e = .returned (.bool false) ∧ w = w')
  (HP1 : Calls Tryz.prog 5 #[.slice a n c, .int .i64 1, .int .i64 2] w fun e w' => e = .returned (.int .i64 q) ∧ w = w')
  (HP2 : Calls Tryz.prog 5 #[.slice a n c, .int .i64 0, .int .i64 5] w fun e w' => e = .returned (.int .i64 3) ∧ w = w') :
  Calls Tryz.prog 3 #[.slice a n c] w fun e w' => e = .returned (.bool true) ∧ Below w.heap.size w w' := by
  obtain ⟨N, hN⟩ : ∃ N : Nat, (N : Int) = 20 + q := ⟨(20 + q).toNat, by omega⟩
  have HN := mkHid hN
  have hw : IntKind.i64.wrap (20 + q) = (N : Int) := by rw [hN]; exact IntWalk.i64_in _ (by omega)
  have hN5 : (N : Int) ≤ 5000 := by omega
  clear hN
  have HBB := mkHid HB
  have HPA := mkHid HP1
  have HPB := mkHid HP2
  have HQ := mkHid hq
  clear HB HP1 HP2 hq
  go_enter Tryz.func3, Tryz.ntmps3
  go_wp2_with fail
  refine HBB.out.mono ?_
  rintro e _ ⟨rfl, rfl⟩
  go_wp2_with fail
  refine HPA.out.mono ?_
  rintro e _ ⟨rfl, rfl⟩
  go_wp2_with fail
  refine HPB.out.mono ?_
  rintro e _ ⟨rfl, rfl⟩
  clear HBB HPA HPB
  go_wp2
  go_loopw [15, 16] (fun sv i w' => ∃ (k : Nat) (S : ByteArray), k ≤ N ∧ i = .int .i64 k ∧ sv = .string S ∧ S = ⟨(txM k).toArray⟩ ∧ w' = w) (fun _ i _ => N - (intOf i).toNat)
  case atStart => exact ⟨0, _, Nat.zero_le _, rfl, rfl, by rfl, rfl⟩
  case round =>
    obtain ⟨k, S, hk, rfl, rfl, hS, rfl⟩ := hrel
    have HS := mkHid hS
    have hsz : S.size = (txM k).length := by rw [hS, mk_size]
    have hln : (txM k).length ≤ 3500 := by
      have := HN.out
      have := HQ.out
      unfold txM; rw [List.length_append, rep_len]; simp; omega
    clear hS
    by_cases hlt : k < N
    · have i1 : (k : Int) < (N : Int) := by omega
      have b1 : ¬ 9223372036854775807 < S.size + 1 := by omega
      clear hsz hln
      go_wp2
      go_roundw
      case rel => exact ⟨k + 1, _, by omega, by go_num, rfl, by rw [HS.out]; exact txM_snoc k, by trivial⟩
      case measure => simp [intOf]; omega
    · have e : k = N := by omega
      subst e
      obtain ⟨T, hT⟩ : ∃ T, S ++ ⟨#[49, 59]⟩ = T := ⟨_, rfl⟩
      have b1 : ¬ 9223372036854775807 < S.size + 2 := by omega
      have HT : Hid (T = ⟨(txM k ++ [49, 59]).toArray⟩) := mkHid (by rw [← hT, HS.out]; exact mk_app _ _)
      have HZ : Hid (T.size ≤ maxLen) := mkHid (by rw [HT.out, mk_size, List.length_append]; unfold maxLen; simp; omega)
      clear hsz hln
      have HC : Hid ((parseI T).2.1 = 5 * q) := mkHid (by
        rw [HT.out]
        rcases HQ.out with h | h
        · obtain rfl : k = 20 := by have := HN.out; omega
          rw [h]; exact parse_neg20
        · obtain rfl : k = 21 := by have := HN.out; omega
          rw [h]; exact parse_neg21)
      clear HS
      go_wp2_with fail
      refine (iParse_any T _ HZ.out).mono ?_
      rintro e w2 ⟨x, rfl, _, _, _, hb, _⟩
      obtain ⟨xk, xs, xm, xa, xc, xkk⟩ := x
      have HB2 := mkHid hb
      rw [HC.out]
      generalize (parseI T).2.2 = z
      clear hb HC HT HZ
      simp only [A.val]
      rcases HQ.out with h | h
      · subst h
        go_wp2
        go_ret
        exact ⟨rfl, ((HB2.out.alloc HB2.out.size _).alloc (by have := HB2.out.size; simp; omega) _)⟩
      · subst h
        go_wp2
        go_ret
        exact ⟨rfl, ((HB2.out.alloc HB2.out.size _).alloc (by have := HB2.out.size; simp; omega) _)⟩

set_option maxRecDepth 100000 in
set_option maxHeartbeats 6400000 in
theorem case4 (q : Int) (hq : q = 0 ∨ q = 1) (a : Option Addr) (n c : Nat) (w : World)
  (HB : Calls Tryz.prog 4 #[.slice a n c] w fun e w' => e = .returned (.bool false) ∧ w = w')
  (HP1 : Calls Tryz.prog 5 #[.slice a n c, .int .i64 1, .int .i64 2] w fun e w' => e = .returned (.int .i64 q) ∧ w = w')
  (HP2 : Calls Tryz.prog 5 #[.slice a n c, .int .i64 0, .int .i64 5] w fun e w' => e = .returned (.int .i64 4) ∧ w = w') :
  Calls Tryz.prog 3 #[.slice a n c] w fun e w' => e = .returned (.bool true) ∧ Below w.heap.size w w' := by
  obtain ⟨N, hN⟩ : ∃ N : Nat, (N : Int) = 497 + q := ⟨(497 + q).toNat, by omega⟩
  have HN := mkHid hN
  have hw : IntKind.i64.wrap (497 + q) = (N : Int) := by rw [hN]; exact IntWalk.i64_in _ (by omega)
  have hN5 : (N : Int) ≤ 5000 := by omega
  clear hN
  have HBB := mkHid HB
  have HPA := mkHid HP1
  have HPB := mkHid HP2
  have HQ := mkHid hq
  clear HB HP1 HP2 hq
  go_enter Tryz.func3, Tryz.ntmps3
  go_wp2_with fail
  refine HBB.out.mono ?_
  rintro e _ ⟨rfl, rfl⟩
  go_wp2_with fail
  refine HPA.out.mono ?_
  rintro e _ ⟨rfl, rfl⟩
  go_wp2_with fail
  refine HPB.out.mono ?_
  rintro e _ ⟨rfl, rfl⟩
  clear HBB HPA HPB
  go_wp2
  go_loopw [19, 20] (fun sv i w' => ∃ (k : Nat) (S : ByteArray), k ≤ N ∧ i = .int .i64 k ∧ sv = .string S ∧ S = ⟨(txS k).toArray⟩ ∧ w' = w) (fun _ i _ => N - (intOf i).toNat)
  case atStart => exact ⟨0, _, Nat.zero_le _, rfl, rfl, by rfl, rfl⟩
  case round =>
    obtain ⟨k, S, hk, rfl, rfl, hS, rfl⟩ := hrel
    have HS := mkHid hS
    have hsz : S.size = (txS k).length := by rw [hS, mk_size]
    have hln : (txS k).length ≤ 3500 := by
      have := HN.out
      have := HQ.out
      unfold txS; rw [List.length_append, rep_len]; simp; omega
    clear hS
    by_cases hlt : k < N
    · have i1 : (k : Int) < (N : Int) := by omega
      have b1 : ¬ 9223372036854775807 < S.size + 6 := by omega
      clear hsz hln
      go_wp2
      go_roundw
      case rel => exact ⟨k + 1, _, by omega, by go_num, rfl, by rw [HS.out]; exact txS_snoc k, by trivial⟩
      case measure => simp [intOf]; omega
    · have e : k = N := by omega
      subst e
      have HT : Hid (S = ⟨(txS k).toArray⟩) := HS
      have HZ : Hid (S.size ≤ maxLen) := mkHid (by unfold maxLen; omega)
      clear hsz hln
      have HC : Hid ((parseI S).2.1 = 5 * q) := mkHid (by
        rw [HT.out]
        have := HN.out
        rw [parse_skips (by have := HQ.out; omega)]
        rcases HQ.out with h | h
        · rw [if_pos (by omega), h]; rfl
        · rw [if_neg (by omega), h]; rfl)
      clear HS
      go_wp2_with fail
      refine (iParse_any S _ HZ.out).mono ?_
      rintro e w2 ⟨x, rfl, _, _, _, hb, _⟩
      obtain ⟨xk, xs, xm, xa, xc, xkk⟩ := x
      have HB2 := mkHid hb
      rw [HC.out]
      generalize (parseI S).2.2 = z
      clear hb HC HT HZ
      simp only [A.val]
      rcases HQ.out with h | h
      · subst h
        go_wp2
        go_ret
        exact ⟨rfl, ((HB2.out.alloc HB2.out.size _).alloc (by have := HB2.out.size; simp; omega) _)⟩
      · subst h
        go_wp2
        go_ret
        exact ⟨rfl, ((HB2.out.alloc HB2.out.size _).alloc (by have := HB2.out.size; simp; omega) _)⟩
end Go.Proofs.YtpebfdplapeejaaGreatDoor
namespace Go.Proofs.YtpebfdplapeejaaGreatDoor
open Go.RowKit
open Pl

theorem blw_alloc' {w a : World} (h : Below w.heap.size w a) (o : Obj) : Below w.heap.size w (a.alloc o) := h.alloc h.size o
set_option maxRecDepth 100000 in
set_option maxHeartbeats 6400000 in
theorem case2 (q : Int) (hq : q = 0 ∨ q = 1) (a : Option Addr) (n c : Nat) (w : World)
  (htab : Lib.TabIs Tryz.prog w "internal/strconv.uint64pow10" .u64 Lib.pow10Tab) (hg : w.cell? ⟨0, 0, none⟩ = some (.iface 91 (.agg #[.pointer (some ⟨7, 52, none⟩)])))
  (HB : Calls Tryz.prog 4 #[.slice a n c] w fun e w' => e = .returned (.bool false) ∧ w = w')
  (HP1 : Calls Tryz.prog 5 #[.slice a n c, .int .i64 1, .int .i64 2] w fun e w' => e = .returned (.int .i64 q) ∧ w = w')
  (HP2 : Calls Tryz.prog 5 #[.slice a n c, .int .i64 0, .int .i64 5] w fun e w' => e = .returned (.int .i64 2) ∧ w = w') :
  Calls Tryz.prog 3 #[.slice a n c] w fun e w' => e = .returned (.bool true) ∧ Below w.heap.size w w' := by
  obtain ⟨gg, hgn⟩ := Option.isSome_iff_exists.1 (show (Tryz.prog.globalNamed "internal/strconv.uint64pow10").isSome = true by kernel_rfl)
  have HBB := mkHid HB
  have HPA := mkHid HP1
  have HPB := mkHid HP2
  have HQ := mkHid hq
  clear HB HP1 HP2 hq
  go_enter Tryz.func3, Tryz.ntmps3
  go_wp2_with fail
  refine HBB.out.mono ?_
  rintro e _ ⟨rfl, rfl⟩
  go_wp2_with fail
  refine HPA.out.mono ?_
  rintro e _ ⟨rfl, rfl⟩
  go_wp2_with fail
  refine HPB.out.mono ?_
  rintro e _ ⟨rfl, rfl⟩
  clear HBB HPA HPB
  rcases HQ.out with h | h
  · subst h
    clear HQ
    have hD : dec 60 = ⟨#[54, 48]⟩ := dec_60
    go_wp2_with fail
    refine (ldigits_any 60 _ (by omega)).mono ?_
    rintro e w1 ⟨rfl, hb⟩
    rw [hD]
    have HB1 := mkHid hb
    have HTB := mkHid (Joins.tab_stays hgn htab hb (Nat.le_refl _))
    have HGL := mkHid ((hb.cell (p := ⟨0, 0, none⟩) (World.block_lt_of_cell? w _ hg)).trans hg)
    clear hb hD
    go_wp2_with fail
    obtain ⟨S, hS⟩ : ∃ S, txA 48 = S := ⟨_, rfl⟩
    have HP : Hid (parseI S = (arrT 60, 0, 0)) := mkHid (by rw [← hS]; exact parse_arr60)
    have HZ : Hid (S.size ≤ maxLen) := mkHid (by rw [← hS]; decide)
    try rw [show ByteArray.mk #[97, 114, 114, 97, 121, 32, 97, 91] ++ ByteArray.mk #[54, 48] ++ ByteArray.mk #[93, 59, 32, 115, 107, 105, 112, 59] = S from by rw [← hS]; rfl]
    try rw [show (txA 48) = S from hS]
    clear hS
    refine (iParse_any S _ HZ.out).mono ?_
    rintro e w2 ⟨x, rfl, hx, hsx, _, hb, htr⟩
    rw [HP.out] at hx ⊢
    obtain ⟨xk, xs, xm, xa, xc, xkk⟩ := x
    simp only [A.erase, arrT, T.node.injEq] at hx
    obtain ⟨rfl, rfl, rfl, hkk⟩ := hx
    have hlen : xkk.length = 2 := by rw [← erases_len, hkk]; rfl
    obtain ⟨w3, hw3⟩ : ∃ z : World, (w2.alloc (.cells #[.int .i64 40, .string ⟨#[]⟩, .int .i64 0, .slice xa xkk.length xc] 33)).alloc (.cells #[.int .i64 0, .int .i64 0] 27) = z := ⟨_, rfl⟩
    obtain ⟨X, hX⟩ : ∃ z, w2.heap.size = z := ⟨_, rfl⟩
    have b23 : Below w2.heap.size w2 w3 := by rw [← hw3]; exact blw_alloc' (blw_alloc' (Below.refl _ _) _) _
    have P3 : Hid (Four w3 X 40 ⟨#[]⟩ 0 xa xkk.length xc) := mkHid (by rw [← hw3, ← hX]; exact (Four.new w2 40 ⟨#[]⟩ 0 xa xkk.length xc 33).below ((Below.refl _ _).alloc (Nat.le_refl _) _))
    have D3 : Hid (w3.cell? ⟨X + 1, 0, none⟩ = some (.int .i64 0)) := mkHid (by rw [← hw3, ← hX]; simp [go_sem])
    have HS3 := mkHid (Sits.stay (w' := w3) _ (fun q hq => b23.block q (Sits.lt _ hsx q hq)) hsx)
    have HB3 := mkHid (below_step (below_step HB1.out hb) b23)
    have HTB3 := mkHid (Joins.tab_stays hgn HTB.out (below_step hb b23) (Nat.le_refl _))
    have HGL3 := mkHid (((below_step hb b23).cell (p := ⟨0, 0, none⟩) (World.block_lt_of_cell? w1 _ HGL.out)).trans HGL.out)
    have HTR := mkHid htr
    have HL := mkHid hlen
    have HKK := mkHid hkk
    clear hsx hb htr hkk HB1 HTB HGL HP HZ b23 hlen
    have HW3 := mkHid hw3
    have HX := mkHid hX
    clear hw3 hX
    simp only [A.val]
    go_wp2_with fail
    rw [HW3.out, HX.out]
    clear HW3 HX
    have HK3 := Sits.lies (lo := 0) _ HS3.out (fun _ _ => Nat.zero_le _)
    simp only [A.at, A.kids] at HK3
    rw [HKK.out] at HK3
    have HK3 := mkHid HK3
    have hxx : xkk.length = ([T.node 32 ⟨#[97]⟩ 60 [], .node 30 ⟨#[]⟩ 0 [.node 28 ⟨#[]⟩ 0 []]] : List T).length := HL.out
    rw [hxx]
    refine (iCheck_any 40 ⟨#[]⟩ 0 [T.node 32 ⟨#[97]⟩ 60 [], .node 30 ⟨#[]⟩ 0 [.node 28 ⟨#[]⟩ 0 []]] xa xc w3 (by decide) (by decide) (by have := HTR.out.1; simp only [A.kids, A.cap] at this; rw [HL.out] at this; exact this) (by have := HTR.out.2; simpa only [A.cap] using this) HK3.out HTB3.out HGL3.out).mono ?_
    rintro e w4 ⟨rfl, hb⟩
    have tr : (trb (.node 40 ⟨#[]⟩ 0 [T.node 32 ⟨#[97]⟩ 60 [], .node 30 ⟨#[]⟩ 0 [.node 28 ⟨#[]⟩ 0 []]])).1 = 0 := trb_60
    rw [tr]
    generalize (trb (.node 40 ⟨#[]⟩ 0 [T.node 32 ⟨#[97]⟩ 60 [], .node 30 ⟨#[]⟩ 0 [.node 28 ⟨#[]⟩ 0 []]])).2 = nm
    have hsz : (sizesP (.node 40 ⟨#[]⟩ 0 [T.node 32 ⟨#[97]⟩ 60 [], .node 30 ⟨#[]⟩ 0 [.node 28 ⟨#[]⟩ 0 []]])).length = 1 := sizes_60
    have HSZ := mkHid hsz
    have P4 := mkHid (P3.out.below hb)
    have HK4 := mkHid (HK3.out.below hb)
    have HB4 := mkHid (below_step HB3.out hb)
    have HTB4 := mkHid (Joins.tab_stays hgn HTB3.out hb (Nat.le_refl _))
    have HGL4 := mkHid ((hb.cell (p := ⟨0, 0, none⟩) (World.block_lt_of_cell? w3 _ HGL3.out)).trans HGL3.out)
    have hfl := fldC
    clear hb tr P3 D3 HK3 HTB3 HGL3 HB3 HS3 hsz
    obtain ⟨p0, p1, p2, p3⟩ := P4.out
    go_wp2_with fail
    refine (iSizesOf_any 40 ⟨#[]⟩ 0 [T.node 32 ⟨#[97]⟩ 60 [], .node 30 ⟨#[]⟩ 0 [.node 28 ⟨#[]⟩ 0 []]] xa xc w4 (by decide) (by decide) (by have := HTR.out.1; simp only [A.kids, A.cap] at this; rw [HL.out] at this; exact this) (by have := HTR.out.2; simpa only [A.cap] using this) HK4.out HTB4.out HGL4.out).mono ?_
    rintro e w5 ⟨ra, rc, rfl, _, hb⟩
    rw [HSZ.out]
    have HB5 := mkHid (below_step HB4.out hb)
    clear hb p0 p1 p2 p3 hfl hxx
    go_wp2
    go_ret
    exact ⟨rfl, HB5.out⟩
  · subst h
    clear HQ
    have hD : dec 61 = ⟨#[54, 49]⟩ := dec_61
    go_wp2_with fail
    refine (ldigits_any 61 _ (by omega)).mono ?_
    rintro e w1 ⟨rfl, hb⟩
    rw [hD]
    have HB1 := mkHid hb
    have HTB := mkHid (Joins.tab_stays hgn htab hb (Nat.le_refl _))
    have HGL := mkHid ((hb.cell (p := ⟨0, 0, none⟩) (World.block_lt_of_cell? w _ hg)).trans hg)
    clear hb hD
    go_wp2_with fail
    obtain ⟨S, hS⟩ : ∃ S, txA 49 = S := ⟨_, rfl⟩
    have HP : Hid (parseI S = (arrT 61, 0, 0)) := mkHid (by rw [← hS]; exact parse_arr61)
    have HZ : Hid (S.size ≤ maxLen) := mkHid (by rw [← hS]; decide)
    try rw [show ByteArray.mk #[97, 114, 114, 97, 121, 32, 97, 91] ++ ByteArray.mk #[54, 49] ++ ByteArray.mk #[93, 59, 32, 115, 107, 105, 112, 59] = S from by rw [← hS]; rfl]
    try rw [show (txA 49) = S from hS]
    clear hS
    refine (iParse_any S _ HZ.out).mono ?_
    rintro e w2 ⟨x, rfl, hx, hsx, _, hb, htr⟩
    rw [HP.out] at hx ⊢
    obtain ⟨xk, xs, xm, xa, xc, xkk⟩ := x
    simp only [A.erase, arrT, T.node.injEq] at hx
    obtain ⟨rfl, rfl, rfl, hkk⟩ := hx
    have hlen : xkk.length = 2 := by rw [← erases_len, hkk]; rfl
    obtain ⟨w3, hw3⟩ : ∃ z : World, (w2.alloc (.cells #[.int .i64 40, .string ⟨#[]⟩, .int .i64 0, .slice xa xkk.length xc] 33)).alloc (.cells #[.int .i64 0, .int .i64 0] 27) = z := ⟨_, rfl⟩
    obtain ⟨X, hX⟩ : ∃ z, w2.heap.size = z := ⟨_, rfl⟩
    have b23 : Below w2.heap.size w2 w3 := by rw [← hw3]; exact blw_alloc' (blw_alloc' (Below.refl _ _) _) _
    have P3 : Hid (Four w3 X 40 ⟨#[]⟩ 0 xa xkk.length xc) := mkHid (by rw [← hw3, ← hX]; exact (Four.new w2 40 ⟨#[]⟩ 0 xa xkk.length xc 33).below ((Below.refl _ _).alloc (Nat.le_refl _) _))
    have D3 : Hid (w3.cell? ⟨X + 1, 0, none⟩ = some (.int .i64 0)) := mkHid (by rw [← hw3, ← hX]; simp [go_sem])
    have HS3 := mkHid (Sits.stay (w' := w3) _ (fun q hq => b23.block q (Sits.lt _ hsx q hq)) hsx)
    have HB3 := mkHid (below_step (below_step HB1.out hb) b23)
    have HTB3 := mkHid (Joins.tab_stays hgn HTB.out (below_step hb b23) (Nat.le_refl _))
    have HGL3 := mkHid (((below_step hb b23).cell (p := ⟨0, 0, none⟩) (World.block_lt_of_cell? w1 _ HGL.out)).trans HGL.out)
    have HTR := mkHid htr
    have HL := mkHid hlen
    have HKK := mkHid hkk
    clear hsx hb htr hkk HB1 HTB HGL HP HZ b23 hlen
    have HW3 := mkHid hw3
    have HX := mkHid hX
    clear hw3 hX
    simp only [A.val]
    go_wp2_with fail
    rw [HW3.out, HX.out]
    clear HW3 HX
    have HK3 := Sits.lies (lo := 0) _ HS3.out (fun _ _ => Nat.zero_le _)
    simp only [A.at, A.kids] at HK3
    rw [HKK.out] at HK3
    have HK3 := mkHid HK3
    have hxx : xkk.length = ([T.node 32 ⟨#[97]⟩ 61 [], .node 30 ⟨#[]⟩ 0 [.node 28 ⟨#[]⟩ 0 []]] : List T).length := HL.out
    rw [hxx]
    refine (iCheck_any 40 ⟨#[]⟩ 0 [T.node 32 ⟨#[97]⟩ 61 [], .node 30 ⟨#[]⟩ 0 [.node 28 ⟨#[]⟩ 0 []]] xa xc w3 (by decide) (by decide) (by have := HTR.out.1; simp only [A.kids, A.cap] at this; rw [HL.out] at this; exact this) (by have := HTR.out.2; simpa only [A.cap] using this) HK3.out HTB3.out HGL3.out).mono ?_
    rintro e w4 ⟨rfl, hb⟩
    have tr : (trb (.node 40 ⟨#[]⟩ 0 [T.node 32 ⟨#[97]⟩ 61 [], .node 30 ⟨#[]⟩ 0 [.node 28 ⟨#[]⟩ 0 []]])).1 = 3 := trb_61
    rw [tr]
    generalize (trb (.node 40 ⟨#[]⟩ 0 [T.node 32 ⟨#[97]⟩ 61 [], .node 30 ⟨#[]⟩ 0 [.node 28 ⟨#[]⟩ 0 []]])).2 = nm
    have hsz : (sizesP (.node 40 ⟨#[]⟩ 0 [T.node 32 ⟨#[97]⟩ 61 [], .node 30 ⟨#[]⟩ 0 [.node 28 ⟨#[]⟩ 0 []]])).length = 0 := sizes_61
    have HSZ := mkHid hsz
    have P4 := mkHid (P3.out.below hb)
    have HK4 := mkHid (HK3.out.below hb)
    have HB4 := mkHid (below_step HB3.out hb)
    have HTB4 := mkHid (Joins.tab_stays hgn HTB3.out hb (Nat.le_refl _))
    have HGL4 := mkHid ((hb.cell (p := ⟨0, 0, none⟩) (World.block_lt_of_cell? w3 _ HGL3.out)).trans HGL3.out)
    have hfl := fldC
    clear hb tr P3 D3 HK3 HTB3 HGL3 HB3 HS3 hsz
    obtain ⟨p0, p1, p2, p3⟩ := P4.out
    go_wp2_with fail
    refine (iSizesOf_any 40 ⟨#[]⟩ 0 [T.node 32 ⟨#[97]⟩ 61 [], .node 30 ⟨#[]⟩ 0 [.node 28 ⟨#[]⟩ 0 []]] xa xc w4 (by decide) (by decide) (by have := HTR.out.1; simp only [A.kids, A.cap] at this; rw [HL.out] at this; exact this) (by have := HTR.out.2; simpa only [A.cap] using this) HK4.out HTB4.out HGL4.out).mono ?_
    rintro e w5 ⟨ra, rc, rfl, _, hb⟩
    rw [HSZ.out]
    have HB5 := mkHid (below_step HB4.out hb)
    clear hb p0 p1 p2 p3 hfl hxx
    go_wp2
    go_ret
    exact ⟨rfl, HB5.out⟩
end Go.Proofs.YtpebfdplapeejaaGreatDoor
namespace Go.Proofs.YtpebfdplapeejaaGreatDoor
open Go.RowKit
open Pl

/-- What the law's pick has taken up behind so many rounds. -/
def part (f : Nat → Int) (n t : Nat) : Nat → Int
  | 0 => 0
  | j + 1 => 31 * part f n t j + f ((t + j) % n)
def pkV (f : Nat → Int) (n t : Nat) (m : Int) : Int := if n = 0 then 0 else (part f n t 3 + t) % m
theorem part_le {f : Nat → Int} {n t : Nat} (hf : ∀ i, 0 ≤ f i ∧ f i ≤ 255) : 0 ≤ part f n t 0 ∧ part f n t 0 ≤ 0 ∧ 0 ≤ part f n t 1 ∧ part f n t 1 ≤ 255 ∧ 0 ≤ part f n t 2 ∧ part f n t 2 ≤ 8160 ∧ 0 ≤ part f n t 3 ∧ part f n t 3 ≤ 300000 := by
  have h0 := hf (t % n)
  have h1 := hf ((t + 1) % n)
  have h2 := hf ((t + 2) % n)
  simp only [part, Nat.add_zero]
  omega
theorem part_some {f : Nat → Int} {n t j : Nat} (hf : ∀ i, 0 ≤ f i ∧ f i ≤ 255) (hj : j ≤ 3) : 0 ≤ part f n t j ∧ part f n t j ≤ 300000 ∧ (j < 3 → part f n t j ≤ 8160) := by
  obtain ⟨a0, a1, b0, b1, c0, c1, d0, d1⟩ := part_le (f := f) (n := n) (t := t) hf
  match j, hj with
  | 0, _ => exact ⟨a0, by omega, fun _ => by omega⟩
  | 1, _ => exact ⟨b0, by omega, fun _ => by omega⟩
  | 2, _ => exact ⟨c0, by omega, fun _ => by omega⟩
  | 3, _ => exact ⟨d0, by omega, fun h => by omega⟩
set_option maxHeartbeats 1600000 in
theorem pickV_any (f : Nat → Int) (n cap b off t : Nat) (m : Int) (w : World) (hf : ∀ i, 0 ≤ f i ∧ f i ≤ 255) (hn : n ≤ 1048576) (h0 : n ≠ 0) (hc : ∀ i, i < n → w.cell? ⟨b, off + i, none⟩ = some (.int .u8 (f i))) (ht : t ≤ 100) (hm0 : 2 ≤ m) (hm : m ≤ 10000000) :
    Calls Tryz.prog 5 #[.slice (some ⟨b, off, none⟩) n cap, .int .i64 t, .int .i64 m] w fun e w' => e = .returned (.int .i64 (pkV f n t m)) ∧ w = w' := by
  have hv : pkV f n t m = (part f n t 3 + t) % m := if_neg h0
  rw [hv]
  clear hv
  have HC := mkHid hc
  have HF := mkHid hf
  have n1 : (1 : Int) ≤ (n : Int) := by omega
  have n4 : ((n : Int) == 0) = false := by simpa using h0
  have n5 : decide (m < 2) = false := by simp; omega
  clear hc hf
  go_enter Tryz.func5, Tryz.ntmps5
  go_wp2
  go_loopw [7, 8] (fun x k v => ∃ (j : Nat), j ≤ 3 ∧ k = .int .i64 j ∧ x = .int .i64 (part f n t j) ∧ v = w) (fun _ k _ => 3 - (intOf k).toNat)
  case atStart => exact ⟨0, by omega, rfl, rfl, rfl⟩
  case round =>
    obtain ⟨j, hj, rfl, rfl, rfl⟩ := hrel
    obtain ⟨y0, y1, y2⟩ := part_some (n := n) (t := t) HF.out hj
    have HY : Hid (part f n t (j + 1) = 31 * part f n t j + f ((t + j) % n)) := mkHid rfl
    by_cases hlt : j < 3
    · obtain ⟨y, hy⟩ : ∃ y, part f n t j = y := ⟨_, rfl⟩
      rw [hy] at y0 y1 y2 HY ⊢
      obtain ⟨z, hz⟩ : ∃ z, z = (t + j) % n := ⟨_, rfl⟩
      rw [← hz] at HY
      have hzn : z < n := by rw [hz]; exact Nat.mod_lt _ (by omega)
      have c0 := HC.out z hzn
      obtain ⟨u0, u1⟩ := HF.out z
      generalize f z = u at c0 u0 u1 HY
      have e1 : ((t : Int) + (j : Int)) % (n : Int) = (z : Int) := by rw [hz]; norm_cast
      have e2 : Int.tmod ((t : Int) + (j : Int)) (n : Int) = (z : Int) := by rw [Int.tmod_eq_emod_of_nonneg (by omega)]; exact e1
      have z0 : (0 : Int) ≤ (z : Int) := by omega
      have z1 : (z : Int) < (n : Int) := by omega
      have yb : y ≤ 8160 := y2 hlt
      clear hz y2 hy
      go_wp2
      go_roundw
      case rel => exact ⟨j + 1, by omega, by go_num, by rw [HY.out], by trivial⟩
      case measure => simp [intOf]; omega
    · obtain rfl : j = 3 := by omega
      obtain ⟨y, hy⟩ : ∃ y, part f n t 3 = y := ⟨_, rfl⟩
      rw [hy] at y0 y1
      have HYY := mkHid hy
      have y5 : 0 ≤ y + (t : Int) := by omega
      have EW : Hid ((wrap64 (y + (t : Int))).tmod m = (y + (t : Int)) % m) := mkHid (by
        rw [show wrap64 (y + (t : Int)) = y + (t : Int) by unfold wrap64; omega, Int.tmod_eq_emod_of_nonneg y5])
      clear y2 HY hy
      go_wp2
      go_ret
      exact ⟨by rw [HYY.out]; first | rfl | (rw [← EW.out]; rfl), rfl⟩
theorem pick_none (cap t : Nat) (a : Option Addr) (m : Int) (w : World) : Calls Tryz.prog 5 #[.slice a 0 cap, .int .i64 t, .int .i64 m] w fun e w' => e = .returned (.int .i64 0) ∧ w = w' := by
  go_enter Tryz.func5, Tryz.ntmps5
  go_wp2
  go_ret
  exact ⟨rfl, rfl⟩
set_option maxRecDepth 100000 in
theorem law_walk (a : Option Addr) (n c : Nat) (w : World) (hn : n ≤ maxLen) (hb : Bytes w w.heap.size a n)
    (htab : Lib.TabIs Tryz.prog w "internal/strconv.uint64pow10" .u64 Lib.pow10Tab) (hg : w.cell? ⟨0, 0, none⟩ = some (.iface 91 (.agg #[.pointer (some ⟨7, 52, none⟩)]))) :
    Calls Tryz.prog 3 #[.slice a n c] w fun e w' => e = .returned (.bool true) ∧ Below w.heap.size w w' := by
  have hB := big_any n c a w hn
  by_cases hbig : 1048576 < n
  · rw [show decide (1048576 < n) = true from decide_eq_true hbig] at hB
    have HBB := mkHid hB
    clear hB htab hg hb hn hbig
    go_enter Tryz.func3, Tryz.ntmps3
    go_wp2_with fail
    refine HBB.out.mono ?_
    rintro e _ ⟨rfl, rfl⟩
    go_wp2
    go_ret
    exact ⟨rfl, Below.refl _ _⟩
  rw [show decide (1048576 < n) = false from decide_eq_false hbig] at hB
  obtain ⟨q, r, hq, hr, h1, h2⟩ : ∃ q r : Int, (q = 0 ∨ q = 1) ∧ (0 ≤ r ∧ r < 5) ∧ (Calls Tryz.prog 5 #[.slice a n c, .int .i64 1, .int .i64 2] w fun e w' => e = .returned (.int .i64 q) ∧ w = w') ∧
      (Calls Tryz.prog 5 #[.slice a n c, .int .i64 0, .int .i64 5] w fun e w' => e = .returned (.int .i64 r) ∧ w = w') := by
    by_cases h0 : n = 0
    · subst h0
      exact ⟨0, 0, .inl rfl, by omega, pick_none c 1 a 2 w, pick_none c 0 a 5 w⟩
    · obtain ⟨b, off, rfl, _, hc⟩ : ∃ b off, a = some ⟨b, off, none⟩ ∧ b < w.heap.size ∧ ∀ i, i < n → ∃ z : Int, 0 ≤ z ∧ z ≤ 255 ∧ w.cell? ⟨b, off + i, none⟩ = some (.int .u8 z) := by
        rcases hb with h | h
        · exact absurd h h0
        · exact h
      obtain ⟨f, hf⟩ : ∃ f : Nat → Int, ∀ i, (0 ≤ f i ∧ f i ≤ 255) ∧ (i < n → w.cell? ⟨b, off + i, none⟩ = some (.int .u8 (f i))) :=
        ⟨fun i => if h : i < n then (hc i h).choose else 0, fun i => by
          by_cases h : i < n
          · simp only [h, dif_pos, forall_const]
            have := (hc i h).choose_spec
            exact ⟨⟨this.1, this.2.1⟩, this.2.2⟩
          · simp only [h, dif_neg, not_false_eq_true, false_implies, and_true]
            omega⟩
      have g : ∀ i, 0 ≤ f i ∧ f i ≤ 255 := fun i => (hf i).1
      have b1 := part_some (n := n) (t := 1) g (Nat.le_refl 3)
      have b0 := part_some (n := n) (t := 0) g (Nat.le_refl 3)
      refine ⟨pkV f n 1 2, pkV f n 0 5, ?_, ?_, pickV_any f n c b off 1 2 w g (by omega) h0 (fun i h => (hf i).2 h) (by omega) (by omega) (by omega), pickV_any f n c b off 0 5 w g (by omega) h0 (fun i h => (hf i).2 h) (by omega) (by omega) (by omega)⟩
      · unfold pkV; rw [if_neg h0]; omega
      · unfold pkV; rw [if_neg h0]; omega
  obtain rfl | rfl | rfl | rfl | rfl : r = 0 ∨ r = 1 ∨ r = 2 ∨ r = 3 ∨ r = 4 := by omega
  · exact case0 q hq a n c w hB h1 h2
  · exact case1 q hq a n c w hB h1 h2
  · exact case2 q hq a n c w htab hg hB h1 h2
  · exact case3 q hq a n c w hB h1 h2
  · exact case4 q hq a n c w hB h1 h2
end Go.Proofs.YtpebfdplapeejaaGreatDoor
