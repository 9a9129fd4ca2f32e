/-
  THE LAW FnLimits, case by case: texts of blanks, of signs.
  PLAIN FACTS on the reading of words: it goes on.
  TREES THAT OWN THEIR MEMORY: a tree with the places of its lists; that each list lies in a block of its own.
-/
import Derived.Test.YtpebfdplapeejaaGreatDoorMWrow
import Derived.Test.YtpebfdplapeejaaGreatDoorMPu
import Derived.Test.YtpebfdplapeejaaGreatDoorMChn
import Derived.Deep.AppendLies
import Derived.Deep.LoopGhost
import Derived.Laws.IdiomStrings
import Derived.Laws.OwnMore
import Derived.Test.YtpebfdplapeejaaGreatDoorMCount
namespace Go.Proofs.YtpebfdplapeejaaGreatDoor
open Go.RowKit
open Pl

theorem Tryz.info5b : (Tryz.prog.info? 5).map (fun i => (i.zero, i.size, i.bytes)) = some (some (.int .u8 0), 1, 1) := by kernel_rfl
theorem bl_alloc' {w a : World} (h : Below w.heap.size w a) (o : Obj) : Below w.heap.size w (a.alloc o) := h.alloc h.size o
theorem rep_get {n j : Nat} (h : j < (rep n [32]).length) : (rep n [32])[j] = 32 := by
  rw [rep_len] at h
  simp only [List.length_singleton, Nat.mul_one] at h
  have h2 : (rep n [32])[j]? = some 32 := by
    obtain ⟨m, rfl⟩ : ∃ m, n = j + (m + 1) := ⟨n - j - 1, by omega⟩
    have hl := rep_len j [32]
    simp only [List.length_singleton, Nat.mul_one] at hl
    rw [rep_split, List.getElem?_append_right (by omega), hl, Nat.sub_self]; rfl
  exact (List.getElem?_eq_some_iff.1 h2).2
set_option maxRecDepth 100000 in
set_option maxHeartbeats 6400000 in
theorem case0 (q : Int) (hq : q = 0 ∨ q = 1) (a : Option Addr) (n c : Nat) (w : World)
  (HB : Calls Tryz.prog 4 #[.slice a n c] w fun e w' => e = .returned (.bool false) ∧ w = w')
  (HP1 : Calls Tryz.prog 5 #[.slice a n c, .int .i64 1, .int .i64 2] w fun e w' => e = .returned (.int .i64 q) ∧ w = w')
  (HP2 : Calls Tryz.prog 5 #[.slice a n c, .int .i64 0, .int .i64 5] w fun e w' => e = .returned (.int .i64 0) ∧ w = w') :
  Calls Tryz.prog 3 #[.slice a n c] w fun e w' => e = .returned (.bool true) ∧ Below w.heap.size w w' := by
  obtain ⟨N, hN⟩ : ∃ N : Nat, (N : Int) = 4000 + q := ⟨(4000 + q).toNat, by omega⟩
  have HN := mkHid hN
  have hw : IntKind.i64.wrap (4000 + q) = (N : Int) := by rw [hN]; exact IntWalk.i64_in _ (by omega)
  have hN5 : (N : Int) ≤ 5000 := by omega
  obtain ⟨i0, hi, hz⟩ := Option.map_eq_some_iff.1 Tryz.info5b
  simp only [Prod.mk.injEq] at hz
  obtain ⟨hz0, hz1, hz2⟩ := hz
  obtain ⟨w1, hmk, hown0, hg0⟩ := run_make_full (P := Tryz.prog) w w.heap.size 22 5 i0 _ 1 Tryz.underlying22 hi hz0 hz1 .i64 .i64 N (by rw [hz2]; omega) (by unfold maxLen; omega) (Nat.le_refl _)
  obtain ⟨g, hgg⟩ : ∃ g, w.heap.size = g := ⟨_, rfl⟩
  have HGG := mkHid hgg
  rw [hgg] at hmk hown0
  have HO := mkHid hown0
  have HG := mkHid (Below.grown (Below.refl w.heap.size w) hg0 (Nat.le_refl _) (fun k hk => by cases hk))
  clear hown0 hg0 hi hz0 hz1 hz2 hgg hN
  have HBB := mkHid HB
  have HPA := mkHid HP1
  have HPB := mkHid HP2
  have HQ := mkHid hq
  clear HB HP1 HP2 hq
  go_enter Tryz.func3, Tryz.ntmps3
  go_wp2_with fail
  refine HBB.out.mono ?_
  rintro e _ ⟨rfl, rfl⟩
  go_wp2_with fail
  refine HPA.out.mono ?_
  rintro e _ ⟨rfl, rfl⟩
  go_wp2_with fail
  refine HPB.out.mono ?_
  rintro e _ ⟨rfl, rfl⟩
  clear HBB HPA HPB
  go_wp2
  go_loopw [5] (fun i w' => ∃ (k : Nat) (xs : List Value), k ≤ N ∧ i = .int .i64 k ∧ w'.ownsRow g 5 1 (.slice (some ⟨g, 0, none⟩) N N) N xs ∧ xs.take k = List.replicate k (.int .u8 32) ∧ Below w.heap.size w w') (fun i _ => N - (intOf i).toNat)
  case atStart => exact ⟨0, _, Nat.zero_le _, rfl, HO.out, by simp, HG.out⟩
  case round =>
    obtain ⟨k, xs, hk, rfl, hown, htake, hbel⟩ := hrel
    have HW := mkHid hown
    have HT := mkHid htake
    have HB := mkHid hbel
    have hxl := hown.1
    rw [Nat.mul_one] at hxl
    have HXL := mkHid hxl
    clear hown htake hbel HO HG hmk hw
    by_cases hlt : k < N
    · have i0 : (0 : Int) ≤ (k : Int) := by omega
      have i1 : (k : Int) < (N : Int) := by omega
      obtain ⟨u0, y0⟩ : ∃ v, wr.cell? ⟨g, k, none⟩ = some v := ⟨_, (HW.out.cellAt k (by omega)).trans (List.getElem?_eq_getElem (by omega))⟩
      have z0 := HW.out.frozenAt k
      have HA0 := mkHid (HW.out.stored k (.int .u8 32))
      clear hxl
      go_wp2
      go_roundw
      case rel =>
        refine ⟨k + 1, _, by omega, by go_num, HA0.out.1, ?_, ?_⟩
        · have hxl := HXL.out
          rw [List.take_succ_eq_append_getElem (by simp; omega), List.getElem_set_self, List.take_set_of_le (Nat.le_refl _), HT.out, List.replicate_succ']
        · exact HB.out.setCell (p := ⟨g, k, none⟩) (Nat.le_of_eq HGG.out) _
      case measure => simp [intOf]; omega
    · have e : k = N := by omega
      subst e
      have hconv := run_convert_bytes_back (P := Tryz.prog) wr 22 9 5 ⟨g, 0, none⟩ k (rep k [32]) Tryz.underlying22 Tryz.underlying5 Tryz.underlying9 (fun j hj => by
        rw [WideShapes.add_plain, rep_get hj]
        rw [rep_len] at hj
        simp only [List.length_singleton, Nat.mul_one] at hj
        have hxl := HXL.out
        have e1 : xs = List.replicate k (.int .u8 32) := by have h := HT.out; rwa [List.take_of_length_le (by omega)] at h
        rw [Nat.zero_add, HW.out.cellAt j (by omega), e1, List.getElem?_replicate, if_pos hj]; rfl)
      rw [rep_len] at hconv
      simp only [List.length_singleton, Nat.mul_one] at hconv
      have HS : Hid ((ByteArray.mk (rep k [32]).toArray).size ≤ maxLen) := mkHid (by rw [mk_size, rep_len]; have := HN.out; have := HQ.out; unfold maxLen; simp; omega)
      have HC : Hid ((wordsI ⟨(rep k [32]).toArray⟩).2.1 = q) := mkHid (by
        rcases HQ.out with h | h
        · rw [words_blank (by have := HN.out; omega), h]
        · rw [words_long' (by rw [mk_size, rep_len]; have := HN.out; simp; omega), h])
      generalize ByteArray.mk (rep k [32]).toArray = T at hconv HS HC
      clear HT HXL hxl
      go_wp2_with fail
      refine (iWords_any T _ HS.out).mono ?_
      rintro e w2 ⟨v, rfl, _, hb⟩
      have HB2 := mkHid (below_step HB.out hb)
      rw [HC.out]
      generalize (wordsI T).2.2 = z
      clear hb HB hconv
      rcases HQ.out with h | h
      · subst h
        go_wp2
        go_ret
        exact ⟨rfl, HB2.out.alloc HB2.out.size _⟩
      · subst h
        go_wp2
        go_ret
        exact ⟨rfl, HB2.out.alloc HB2.out.size _⟩

set_option maxRecDepth 100000 in
set_option maxHeartbeats 6400000 in
theorem case1 (q : Int) (hq : q = 0 ∨ q = 1) (a : Option Addr) (n c : Nat) (w : World)
  (HB : Calls Tryz.prog 4 #[.slice a n c] w fun e w' => e = .returned (.bool false) ∧ w = w')
  (HP1 : Calls Tryz.prog 5 #[.slice a n c, .int .i64 1, .int .i64 2] w fun e w' => e = .returned (.int .i64 q) ∧ w = w')
  (HP2 : Calls Tryz.prog 5 #[.slice a n c, .int .i64 0, .int .i64 5] w fun e w' => e = .returned (.int .i64 1) ∧ w = w') :
  Calls Tryz.prog 3 #[.slice a n c] w fun e w' => e = .returned (.bool true) ∧ Below w.heap.size w w' := by
  obtain ⟨N, hN⟩ : ∃ N : Nat, (N : Int) = 1500 + q := ⟨(1500 + q).toNat, by omega⟩
  have HN := mkHid hN
  have hw : IntKind.i64.wrap (1500 + q) = (N : Int) := by rw [hN]; exact IntWalk.i64_in _ (by omega)
  have hN5 : (N : Int) ≤ 5000 := by omega
  obtain ⟨i0, hi, hz⟩ := Option.map_eq_some_iff.1 Tryz.info5b
  simp only [Prod.mk.injEq] at hz
  obtain ⟨hz0, hz1, hz2⟩ := hz
  have HI := mkHid (And.intro hi (And.intro hz0 (And.intro hz1 hz2)))
  clear hi hz0 hz1 hz2 hN
  have HBB := mkHid HB
  have HPA := mkHid HP1
  have HPB := mkHid HP2
  have HQ := mkHid hq
  clear HB HP1 HP2 hq
  go_enter Tryz.func3, Tryz.ntmps3
  go_wp2_with fail
  refine HBB.out.mono ?_
  rintro e _ ⟨rfl, rfl⟩
  go_wp2_with fail
  refine HPA.out.mono ?_
  rintro e _ ⟨rfl, rfl⟩
  go_wp2_with fail
  refine HPB.out.mono ?_
  rintro e _ ⟨rfl, rfl⟩
  clear HBB HPA HPB
  go_wp2
  go_loopw [8, 9] (fun sv i w' => ∃ (k : Nat) (ao : Option Addr) (cap : Nat), k ≤ N ∧ i = .int .i64 k ∧ sv = .slice ao (2 * k) cap ∧ w'.ownsRow w.heap.size 5 1 (.slice ao (2 * k) cap) (2 * k) (Lib.byteCells (rep k [45, 32])) ∧ Below w.heap.size w w') (fun _ i _ => N - (intOf i).toNat)
  case atStart => exact ⟨0, _, _, Nat.zero_le _, rfl, rfl, ⟨rfl, .inr ⟨w.heap.size, 0, #[], rfl, Nat.le_refl _, heap_alloc_new _ _, Nat.le_refl _, by unfold maxLen; omega, rfl, rfl⟩⟩, bl_alloc' (Below.refl _ _) _⟩
  case round =>
    obtain ⟨k, ao, cap, hk, rfl, rfl, hown, hbel⟩ := hrel
    have HW := mkHid hown
    have HB := mkHid hbel
    clear hown hbel
    by_cases hlt : k < N
    · have i1 : (k : Int) < (N : Int) := by omega
      go_wp2_with (at_builtin; refine wpList_append_lies _ rfl _ _ 22 rfl w.heap.size 5 i0 (.int .u8 0) 1 1 Tryz.underlying22 HI.out.1 HI.out.2.1 HI.out.2.2.1 HI.out.2.2.2 rfl (by decide) _ _ _ rfl (World.ownsRow.alloc HW.out _) ⟨wr.heap.size, 0, none⟩ 2 2 [.int .u8 45, .int .u8 32] rfl rfl ?c1 ?c2 (by decide) ?c3 ?c4 ?c5 (wr.heap.size + 1) (by simp) ?_)
      case c1 =>
        intro j u hu
        rw [WideShapes.add_plain, Nat.zero_add, World.cell?_alloc_new]
        match j, hu with
        | 0, hu => simpa using hu
        | 1, hu => simpa using hu
      case c2 => intro u hu; simp at hu; rcases hu with rfl | rfl <;> rfl
      case c3 => unfold maxLen; omega
      case c4 => omega
      case c5 => have := HB.out.size; simp; omega
      intro g' cap' w3 hown' hgrow hat' _
      have e1 : Lib.byteCells (rep k [45, 32]) ++ [.int .u8 45, .int .u8 32] = Lib.byteCells (rep (k + 1) [45, 32]) := by
        rw [← rep_snoc]; simp [Lib.byteCells]
      rw [e1] at hown'
      have HW3 := mkHid hown'
      have HB3 : Hid (Below w.heap.size w w3) := mkHid (Below.grown (bl_alloc' HB.out _) hgrow (by have := HB.out.size; simp; omega) (fun q hq => (World.ownsRow.lt HW.out q hq).1))
      clear hown' hgrow hat' e1 HB HW
      go_wp2
      go_roundw
      case rel => exact ⟨k + 1, _, _, by omega, by go_num, rfl, HW3.out, HB3.out⟩
      case measure => simp [intOf]; omega
    · have e : k = N := by omega
      subst e
      have hg : ∃ g, ao = some ⟨g, 0, none⟩ := by
        rcases HW.out.2 with ⟨e, h0⟩ | ⟨g, cap, cur, e, _⟩
        · have := HN.out
          have := HQ.out
          omega
        · cases e; exact ⟨g, rfl⟩
      obtain ⟨g, rfl⟩ := hg
      have hconv := run_convert_bytes_back (P := Tryz.prog) wr 22 9 5 ⟨g, 0, none⟩ cap (rep k [45, 32]) Tryz.underlying22 Tryz.underlying5 Tryz.underlying9 (fun j hj => by
        rw [WideShapes.add_plain, Nat.zero_add, HW.out.cellAt j (by rw [rep_len] at hj; simp at hj; omega)]
        simp [Lib.byteCells, hj])
      rw [rep_len, show k * ([45, 32] : List UInt8).length = 2 * k by simp; omega] at hconv
      obtain ⟨hl, hc⟩ := words_minus (n := k) (by have := HN.out; have := HQ.out; omega)
      have HS : Hid ((ByteArray.mk (rep k [45, 32]).toArray).size ≤ maxLen) := mkHid (by rw [mk_size, rep_len]; have := HN.out; have := HQ.out; unfold maxLen; simp; omega)
      have HC : Hid ((wordsI ⟨(rep k [45, 32]).toArray⟩).2.1 = 3 * q ∧ ((wordsI ⟨(rep k [45, 32]).toArray⟩).1.length : Int) = (1 - q) * 1500) := mkHid (by
        rcases HQ.out with h | h
        · have := HN.out
          rw [hl, hc, if_pos (by omega), if_pos (by omega), h]; exact ⟨rfl, by omega⟩
        · have := HN.out
          rw [hl, hc, if_neg (by omega), if_neg (by omega), h]; exact ⟨rfl, rfl⟩)
      clear hl hc
      generalize ByteArray.mk (rep k [45, 32]).toArray = T at hconv HS HC
      go_wp2_with fail
      refine (iWords_any T _ HS.out).mono ?_
      rintro e w2 ⟨v, rfl, hO, hb⟩
      obtain ⟨va, vc, rfl⟩ := hO.form
      have HB2 := mkHid (below_step HB.out hb)
      rw [HC.out.1]
      generalize (wordsI T).2.2 = z
      have HL := mkHid HC.out.2
      generalize (wordsI T).1.length = L at HL
      clear hb HB hconv hO HC HW
      rcases HQ.out with h | h
      · subst h
        have hL : (L : Int) = 1500 := by have := HL.out; omega
        go_wp2
        go_ret
        exact ⟨rfl, HB2.out.alloc HB2.out.size _⟩
      · subst h
        have hL : (L : Int) = 0 := by have := HL.out; omega
        go_wp2
        go_ret
        exact ⟨rfl, HB2.out.alloc HB2.out.size _⟩
end Go.Proofs.YtpebfdplapeejaaGreatDoor
namespace Go.Proofs.YtpebfdplapeejaaGreatDoor
open Go.RowKit
open Pl

theorem isW_lt {ws : List W3} {i : Nat} {s : ByteArray} (h : isW ws i s = true) : i < ws.length := by
  unfold isW at h
  by_cases q : i < ws.length
  · exact q
  · rw [List.getElem?_eq_none (by omega)] at h; cases h
theorem kindW_lt {ws : List W3} {i : Nat} {k : Int} (h : kindW ws i = k) (hk : k ≠ 0) : i < ws.length := by
  unfold kindW at h
  by_cases q : i < ws.length
  · exact q
  · rw [List.getElem?_eq_none (by omega)] at h; exact absurd h.symm hk
theorem isW_end {ws : List W3} {i : Nat} (s : ByteArray) (h : ws.length ≤ i) : isW ws i s = false := by
  unfold isW; rw [List.getElem?_eq_none h]
theorem kindW_end {ws : List W3} {i : Nat} (h : ws.length ≤ i) : kindW ws i = 0 := by
  unfold kindW; rw [List.getElem?_eq_none h]
theorem textW_end {ws : List W3} {i : Nat} (h : ws.length ≤ i) : textW ws i = ⟨#[]⟩ := by
  unfold textW; rw [List.getElem?_eq_none h]
theorem isW_text {ws : List W3} {i : Nat} {s : ByteArray} (h : isW ws i s = true) : textW ws i = s := by
  unfold isW at h; unfold textW
  split at h
  · rename_i x hx
    simpa using h
  · cases h
theorem isW_of_text {ws : List W3} {i : Nat} {s : ByteArray} (hi : i < ws.length) : isW ws i s = decide (textW ws i = s) := by
  unfold isW textW
  rw [List.getElem?_eq_getElem hi]
theorem then_ok {r : Res} {f : T → Nat → Res} {t : T} {j : Nat} (h : r.then_ f = .ok t j) : ∃ x i, r = .ok x i ∧ f x i = .ok t j := by
  cases r with
  | ok x i => exact ⟨x, i, rfl, h⟩
  | no p => cases h
theorem want_ok {ws : List W3} {i : Nat} {s : ByteArray} {r : Res} {t : T} {j : Nat} (h : want ws i s r = .ok t j) : isW ws i s = true ∧ r = .ok t j := by
  unfold want at h
  split at h
  · rename_i q; exact ⟨q, h⟩
  · cases h
theorem wantK_ok {ws : List W3} {i : Nat} {k : Int} {r : Res} {t : T} {j : Nat} (h : wantK ws i k r = .ok t j) : kindW ws i = k ∧ r = .ok t j := by
  unfold wantK at h
  split at h
  · rename_i q; exact ⟨q, h⟩
  · cases h
theorem ok_inj {t t' : T} {j j' : Nat} (h : Res.ok t j = .ok t' j') : t = t' ∧ j = j' := by cases h; exact ⟨rfl, rfl⟩

/-- Each part goes on at least by a word, and not past the end. -/
def Adv (ws : List W3) (f : Nat) : Prop := (∀ i t j, mOne ws f i = .ok t j → i < j ∧ j ≤ ws.length) ∧ (∀ i t j, mTerm ws f i = .ok t j → i < j ∧ j ≤ ws.length) ∧
  (∀ x i t j, i ≤ ws.length → mTermL ws f x i = .ok t j → i ≤ j ∧ j ≤ ws.length) ∧ (∀ i t j, mExpr ws f i = .ok t j → i < j ∧ j ≤ ws.length) ∧ (∀ x i t j, i ≤ ws.length → mExprL ws f x i = .ok t j → i ≤ j ∧ j ≤ ws.length)
theorem adv_one {ws : List W3} {f : Nat} (ih : Adv ws f) {i : Nat} {t : T} {j : Nat} (h : mOne ws (f + 1) i = .ok t j) : i < j ∧ j ≤ ws.length := by
  obtain ⟨a1, a2, a3, a4, a5⟩ := ih
  simp only [mOne] at h
  split at h
  · obtain ⟨x, k, h1, h2⟩ := then_ok h
    have := a1 _ _ _ h1
    have := (ok_inj h2).2
    omega
  · split at h
    · obtain ⟨x, k, h1, h2⟩ := then_ok h
      obtain ⟨h3, h4⟩ := want_ok h2
      have := a4 _ _ _ h1
      have := isW_lt h3
      have := (ok_inj h4).2
      omega
    · split at h
      · obtain ⟨g1, h⟩ := want_ok h
        obtain ⟨g2, h⟩ := wantK_ok h
        obtain ⟨g3, h⟩ := want_ok h
        have := isW_lt g3
        have := (ok_inj h).2
        omega
      · split at h
        · rename_i g
          have := kindW_lt g (by decide)
          have := (ok_inj h).2
          omega
        · obtain ⟨g, h⟩ := wantK_ok h
          have := kindW_lt g (by decide)
          split at h
          · obtain ⟨x, k, h1, h2⟩ := then_ok h
            obtain ⟨h3, h4⟩ := want_ok h2
            have := a4 _ _ _ h1
            have := isW_lt h3
            have := (ok_inj h4).2
            omega
          · have := (ok_inj h).2
            omega
theorem adv (ws : List W3) (f : Nat) : Adv ws f := by
  induction f with
  | zero => exact ⟨fun _ _ _ h => by simp [mOne] at h, fun _ _ _ h => by simp [mTerm] at h, fun _ _ _ _ _ h => by simp [mTermL] at h, fun _ _ _ h => by simp [mExpr] at h, fun _ _ _ _ _ h => by simp [mExprL] at h⟩
  | succ f ih =>
    have ih' := ih
    obtain ⟨a1, a2, a3, a4, a5⟩ := ih
    refine ⟨fun i t j h => adv_one ih' h, fun i t j h => ?_, fun x i t j hi h => ?_, fun i t j h => ?_, fun x i t j hi h => ?_⟩
    · simp only [mTerm] at h
      obtain ⟨x, k, h1, h2⟩ := then_ok h
      have q := a1 _ _ _ h1
      have := a3 _ _ _ _ q.2 h2
      omega
    · simp only [mTermL] at h
      split at h
      · obtain ⟨y, k, h1, h2⟩ := then_ok h
        have q := a1 _ _ _ h1
        have := a3 _ _ _ _ q.2 h2
        omega
      · have := (ok_inj h).2
        omega
    · simp only [mExpr] at h
      obtain ⟨x, k, h1, h2⟩ := then_ok h
      have q := a2 _ _ _ h1
      have := a5 _ _ _ _ q.2 h2
      omega
    · simp only [mExprL] at h
      split at h
      · obtain ⟨y, k, h1, h2⟩ := then_ok h
        have q := a2 _ _ _ h1
        have := a5 _ _ _ _ q.2 h2
        omega
      · split at h
        · obtain ⟨y, k, h1, h2⟩ := then_ok h
          have q := a2 _ _ _ h1
          have := a5 _ _ _ _ q.2 h2
          omega
        · have := (ok_inj h).2
          omega
theorem adv_cond {ws : List W3} {f i : Nat} {t : T} {j : Nat} (h : mCond ws f i = .ok t j) : i < j ∧ j ≤ ws.length := by
  unfold mCond at h
  obtain ⟨x, k, h1, h2⟩ := then_ok h
  have q := (adv ws f).2.2.2.1 _ _ _ h1
  split at h2
  · cases h2
  · obtain ⟨y, k2, h3, h4⟩ := then_ok h2
    have q2 := (adv ws f).2.2.2.1 _ _ _ h3
    have := (ok_inj h4).2
    omega
theorem adv_short {ws : List W3} {f i : Nat} {t : T} {j : Nat} (h : mShort ws f i = .ok t j) : i < j ∧ j ≤ ws.length := by
  unfold mShort at h
  have ax := (adv ws f).2.2.2.1
  split at h
  · obtain ⟨g, h⟩ := wantK_ok h
    have := kindW_lt g (by decide)
    have := (ok_inj h).2
    omega
  · split at h
    · obtain ⟨x, k, h1, h2⟩ := then_ok h
      have := adv_cond h1
      have := (ok_inj h2).2
      omega
    · split at h
      · rename_i g
        have := isW_lt g
        have := (ok_inj h).2
        omega
      · split at h
        · rename_i g
          have := isW_lt g
          have := (ok_inj h).2
          omega
        · obtain ⟨g, h⟩ := wantK_ok h
          split at h
          · obtain ⟨x, k, h1, h2⟩ := then_ok h
            obtain ⟨h3, h4⟩ := want_ok h2
            obtain ⟨h5, h6⟩ := want_ok h4
            obtain ⟨y, k2, h7, h8⟩ := then_ok h6
            have := ax _ _ _ h1
            have := ax _ _ _ h7
            have := (ok_inj h8).2
            omega
          · obtain ⟨h5, h6⟩ := want_ok h
            obtain ⟨y, k2, h7, h8⟩ := then_ok h6
            have := ax _ _ _ h7
            have := (ok_inj h8).2
            omega
def AdvS (ws : List W3) (F f : Nat) : Prop := (∀ i t j, mStmt ws F f i = .ok t j → i < j ∧ j ≤ ws.length) ∧ (∀ i t j, mBlock ws F f i = .ok t j → i < j ∧ j ≤ ws.length) ∧ (∀ acc i t j, mList ws F f acc i = .ok t j → i < j ∧ j ≤ ws.length)
theorem advS (ws : List W3) (F f : Nat) : AdvS ws F f := by
  induction f with
  | zero => exact ⟨fun _ _ _ h => by simp [mStmt] at h, fun _ _ _ h => by simp [mBlock] at h, fun _ _ _ _ h => by simp [mList] at h⟩
  | succ f ih =>
    obtain ⟨a1, a2, a3⟩ := ih
    have ax := (adv ws F).2.2.2.1
    refine ⟨fun i t j h => ?_, fun i t j h => ?_, fun acc i t j h => ?_⟩
    · simp only [mStmt] at h
      split at h
      · obtain ⟨x, k, h1, h2⟩ := then_ok h
        obtain ⟨y, k2, h3, h4⟩ := then_ok h2
        have := adv_cond h1
        have := a2 _ _ _ h3
        split at h4
        · obtain ⟨z, k3, h5, h6⟩ := then_ok h4
          have := a2 _ _ _ h5
          have := (ok_inj h6).2
          omega
        · have := (ok_inj h4).2
          omega
      · split at h
        · obtain ⟨x, k, h1, h2⟩ := then_ok h
          obtain ⟨y, k2, h3, h4⟩ := then_ok h2
          have := adv_cond h1
          have := a2 _ _ _ h3
          have := (ok_inj h4).2
          omega
        · split at h
          · obtain ⟨_, h⟩ := wantK_ok h
            obtain ⟨_, h⟩ := want_ok h
            obtain ⟨x, k, h1, h2⟩ := then_ok h
            obtain ⟨_, h2⟩ := want_ok h2
            obtain ⟨y, k2, h3, h4⟩ := then_ok h2
            obtain ⟨z, k3, h5, h6⟩ := then_ok h4
            have := ax _ _ _ h1
            have := ax _ _ _ h3
            have := a2 _ _ _ h5
            have := (ok_inj h6).2
            omega
          · obtain ⟨x, k, h1, h2⟩ := then_ok h
            obtain ⟨h3, h4⟩ := want_ok h2
            have := adv_short h1
            have := isW_lt h3
            have := (ok_inj h4).2
            omega
    · simp only [mBlock] at h
      obtain ⟨g, h⟩ := want_ok h
      have := a3 _ _ _ _ h
      omega
    · simp only [mList] at h
      split at h
      · rename_i g
        have := isW_lt g
        have := (ok_inj h).2
        omega
      · obtain ⟨x, k, h1, h2⟩ := then_ok h
        have := a1 _ _ _ h1
        have := a3 _ _ _ _ h2
        omega
theorem adv_decl {ws : List W3} {i : Nat} {t : T} {j : Nat} (h : mDecl ws i = .ok t j) : i < j ∧ j ≤ ws.length := by
  unfold mDecl at h
  split at h
  · obtain ⟨_, h⟩ := wantK_ok h
    obtain ⟨g, h⟩ := want_ok h
    have := isW_lt g
    have := (ok_inj h).2
    omega
  · obtain ⟨_, h⟩ := want_ok h
    obtain ⟨_, h⟩ := wantK_ok h
    obtain ⟨_, h⟩ := want_ok h
    split at h
    · obtain ⟨_, h⟩ := want_ok h
      obtain ⟨g, h⟩ := want_ok h
      have := isW_lt g
      have := (ok_inj h).2
      omega
    · obtain ⟨_, h⟩ := wantK_ok h
      obtain ⟨_, h⟩ := want_ok h
      obtain ⟨g, h⟩ := want_ok h
      have := isW_lt g
      have := (ok_inj h).2
      omega
end Go.Proofs.YtpebfdplapeejaaGreatDoor
namespace Go.Proofs.YtpebfdplapeejaaGreatDoor
open Go.RowKit

/-- A tree with the place and the room of each list. -/
inductive A where
  | node (k : Int) (s : ByteArray) (m : Int) (a : Option Addr) (c : Nat) (kids : List A)
theorem A.induct {P : A → Prop} (h : ∀ k s m a c kk, (∀ x ∈ kk, P x) → P (.node k s m a c kk)) : ∀ x, P x
  | .node k s m a c kk => h k s m a c kk fun x _ => A.induct h x
mutual
def A.erase : A → T
  | .node k s m _ _ kk => .node k s m (erases kk)
def erases : List A → List T
  | [] => []
  | x :: r => x.erase :: erases r
end
def A.val : A → Value
  | .node k s m a c kk => .agg #[.int .i64 k, .string s, .int .i64 m, .slice a kk.length c]
def A.cells : A → List Value
  | .node k s m a c kk => [.int .i64 k, .string s, .int .i64 m, .slice a kk.length c]
def cellsL (kk : List A) : List Value := kk.flatMap A.cells
def blockOf (a : Option Addr) : List Nat := match a with
  | some p => [p.block]
  | none => []
mutual
def A.foot : A → List Nat
  | .node _ _ _ a _ kk => (if kk.length = 0 then [] else blockOf a) ++ feet kk
def feet : List A → List Nat
  | [] => []
  | x :: r => x.foot ++ feet r
end
/-- A list lies in a block of its own. -/
def Bed (w : World) (a : Option Addr) (kk : List A) : Prop := kk = [] ∨ ∃ b cs, a = some ⟨b, 0, none⟩ ∧ w.heap[b]? = some (.cells cs 33 (0, 0)) ∧ ∀ (i : Nat) (v : Value), (cellsL kk)[i]? = some v → cs[i]? = some v
mutual
def Sits (w : World) : A → Prop
  | .node _ s _ a _ kk => s.size ≤ maxLen ∧ kk.length ≤ maxLen ∧ Bed w a kk ∧ SitsL w kk
def SitsL (w : World) : List A → Prop
  | [] => True
  | x :: r => Sits w x ∧ SitsL w r
end
theorem erases_len (kk : List A) : (erases kk).length = kk.length := by
  induction kk with
  | nil => rfl
  | cons x r ih => simp only [erases, List.length_cons, ih]
theorem erases_append (p q : List A) : erases (p ++ q) = erases p ++ erases q := by
  induction p with
  | nil => rfl
  | cons x r ih => simp only [List.cons_append, erases, ih]
theorem feet_append (p q : List A) : feet (p ++ q) = feet p ++ feet q := by
  induction p with
  | nil => rfl
  | cons x r ih => simp only [List.cons_append, feet, ih, List.append_assoc]
theorem sitsL_iff (w : World) (kk : List A) : SitsL w kk ↔ ∀ x ∈ kk, Sits w x := by
  induction kk with
  | nil => simp [SitsL]
  | cons x r ih => simp only [SitsL, ih, List.mem_cons, forall_eq_or_imp]
theorem feet_mem {kk : List A} {b : Nat} : b ∈ feet kk ↔ ∃ x ∈ kk, b ∈ x.foot := by
  induction kk with
  | nil => simp [feet]
  | cons x r ih => simp only [feet, List.mem_append, ih, List.mem_cons, exists_eq_or_imp]
theorem cellsL_len (kk : List A) : (cellsL kk).length = kk.length * 4 := by
  unfold cellsL
  induction kk with
  | nil => rfl
  | cons x r ih =>
    obtain ⟨k, s, m, a, c, q⟩ := x
    simp only [List.flatMap_cons, List.length_append, List.length_cons, ih, A.cells, List.length_nil]
    omega
theorem cellsL_append (p q : List A) : cellsL (p ++ q) = cellsL p ++ cellsL q := by simp [cellsL]
theorem cellsL_get {kk : List A} {i : Nat} {k m : Int} {s : ByteArray} {a : Option Addr} {c : Nat} {q : List A} (h : kk[i]? = some (.node k s m a c q)) :
    (cellsL kk)[i * 4]? = some (.int .i64 k) ∧ (cellsL kk)[i * 4 + 1]? = some (.string s) ∧ (cellsL kk)[i * 4 + 2]? = some (.int .i64 m) ∧ (cellsL kk)[i * 4 + 3]? = some (.slice a q.length c) := by
  induction kk generalizing i with
  | nil => simp at h
  | cons x r ih =>
    cases i with
    | zero =>
      simp at h
      subst h
      simp [cellsL, A.cells]
    | succ i =>
      simp at h
      have e : cellsL (x :: r) = x.cells ++ cellsL r := by simp [cellsL]
      have l : x.cells.length = 4 := by cases x; rfl
      obtain ⟨h0, h1, h2, h3⟩ := ih h
      rw [e]
      refine ⟨?_, ?_, ?_, ?_⟩ <;> rw [List.getElem?_append_right (by omega), l]
      · rw [show (i + 1) * 4 - 4 = i * 4 by omega]; exact h0
      · rw [show (i + 1) * 4 + 1 - 4 = i * 4 + 1 by omega]; exact h1
      · rw [show (i + 1) * 4 + 2 - 4 = i * 4 + 2 by omega]; exact h2
      · rw [show (i + 1) * 4 + 3 - 4 = i * 4 + 3 by omega]; exact h3

theorem Bed.stay {w w' : World} {a : Option Addr} {kk : List A} (h : Bed w a kk) (hs : ∀ b ∈ (if kk.length = 0 then [] else blockOf a), w'.heap[b]? = w.heap[b]?) : Bed w' a kk := by
  rcases h with h | ⟨b, cs, rfl, h1, h2⟩
  · exact .inl h
  · by_cases e : kk.length = 0
    · exact .inl (List.eq_nil_of_length_eq_zero e)
    · rw [if_neg e] at hs
      exact .inr ⟨b, cs, rfl, (hs b (by simp [blockOf])).trans h1, h2⟩
theorem Sits.stay {w w' : World} (x : A) : (∀ b ∈ x.foot, w'.heap[b]? = w.heap[b]?) → Sits w x → Sits w' x := by
  refine A.induct (P := fun x => (∀ b ∈ x.foot, w'.heap[b]? = w.heap[b]?) → Sits w x → Sits w' x) ?_ x
  intro k s m a c kk ih hs h
  simp only [Sits] at h ⊢
  simp only [A.foot, List.mem_append] at hs
  refine ⟨h.1, h.2.1, h.2.2.1.stay fun b hb => hs b (.inl hb), (sitsL_iff _ _).2 fun x hx => ih x hx (fun b hb => hs b (.inr (feet_mem.2 ⟨x, hx, hb⟩))) ((sitsL_iff _ _).1 h.2.2.2 x hx)⟩
theorem SitsL.stay {w w' : World} {kk : List A} (h : SitsL w kk) (hs : ∀ b ∈ feet kk, w'.heap[b]? = w.heap[b]?) : SitsL w' kk :=
  (sitsL_iff _ _).2 fun x hx => Sits.stay x (fun b hb => hs b (feet_mem.2 ⟨x, hx, hb⟩)) ((sitsL_iff _ _).1 h x hx)
/-- What a tree lies in is there. -/
theorem Sits.lt {w : World} (x : A) : Sits w x → ∀ b ∈ x.foot, b < w.heap.size := by
  refine A.induct (P := fun x => Sits w x → ∀ b ∈ x.foot, b < w.heap.size) ?_ x
  intro k s m a c kk ih h b hb
  simp only [Sits] at h
  simp only [A.foot, List.mem_append] at hb
  rcases hb with hb | hb
  · rcases h.2.2.1 with h1 | ⟨b', cs, rfl, h1, _⟩
    · subst h1; simp at hb
    · split at hb
      · cases hb
      · simp [blockOf] at hb
        subst hb
        exact (Array.getElem?_eq_some_iff.1 h1).1
  · obtain ⟨y, hy, hb⟩ := feet_mem.1 hb
    exact ih y hy ((sitsL_iff _ _).1 h.2.2.2 y hy) b hb
theorem SitsL.lt {w : World} {kk : List A} (h : SitsL w kk) : ∀ b ∈ feet kk, b < w.heap.size := fun b hb => by
  obtain ⟨y, hy, hb⟩ := feet_mem.1 hb
  exact Sits.lt y ((sitsL_iff _ _).1 h y hy) b hb
/-- A new tree: no block twice, none of them old. -/
def New (n : Nat) (x : A) : Prop := x.foot.Nodup ∧ ∀ b ∈ x.foot, n ≤ b
def NewL (n : Nat) (kk : List A) : Prop := (feet kk).Nodup ∧ ∀ b ∈ feet kk, n ≤ b
theorem New.mono {n n' : Nat} {x : A} (h : New n x) (hn : n' ≤ n) : New n' x := ⟨h.1, fun b hb => Nat.le_trans hn (h.2 b hb)⟩
theorem NewL.mono {n n' : Nat} {x : List A} (h : NewL n x) (hn : n' ≤ n) : NewL n' x := ⟨h.1, fun b hb => Nat.le_trans hn (h.2 b hb)⟩

theorem erases_get {kk : List A} {i : Nat} {t : T} (h : (erases kk)[i]? = some t) : ∃ x, kk[i]? = some x ∧ x.erase = t := by
  induction kk generalizing i with
  | nil => simp [erases] at h
  | cons x r ih =>
    cases i with
    | zero => simp [erases] at h; exact ⟨x, rfl, h⟩
    | succ i => simp [erases] at h; obtain ⟨y, h1, h2⟩ := ih h; exact ⟨y, by simpa using h1, h2⟩
theorem cell_in {w : World} {b i E : Nat} {cs : Array Value} {v : Value} (h : w.heap[b]? = some (.cells cs E (0, 0))) (hv : cs[i]? = some v) : w.cell? ⟨b, i, none⟩ = some v := by
  rw [Lib.cell_of_heap h]; exact hv
def A.at : A → Option Addr
  | .node _ _ _ a _ _ => a
def A.kids : A → List A
  | .node _ _ _ _ _ kk => kk
theorem Sits.lies {w : World} {lo : Nat} (x : A) : Sits w x → (∀ b ∈ x.foot, lo ≤ b) → Kids w lo x.at (erases x.kids) := by
  refine A.induct (P := fun x => Sits w x → (∀ b ∈ x.foot, lo ≤ b) → Kids w lo x.at (erases x.kids)) ?_ x
  intro k s m a c kk ih h hlo
  simp only [Sits] at h
  simp only [A.foot, List.mem_append] at hlo
  obtain ⟨hs, hn, hb, hl⟩ := h
  rcases hb with rfl | ⟨b, cs, rfl, h1, h2⟩
  · exact .inl rfl
  · by_cases e : kk.length = 0
    · have : kk = [] := List.eq_nil_of_length_eq_zero e
      subst this
      exact .inl rfl
    · rw [if_neg e] at hlo
      refine .inr ⟨b, 0, rfl, hlo b (.inl (by simp [blockOf])), LiesL.of fun i t ht => ?_⟩
      obtain ⟨y, hy, rfl⟩ := erases_get ht
      have hm := List.mem_of_getElem? hy
      have hsy := (sitsL_iff _ _).1 hl y hm
      have hk := ih y hm hsy (fun b hb => hlo b (.inr (feet_mem.2 ⟨y, hm, hb⟩)))
      obtain ⟨k', s', m', a', c', q⟩ := y
      obtain ⟨g0, g1, g2, g3⟩ := cellsL_get hy
      simp only [Sits] at hsy
      simp only [A.erase]
      unfold Lies
      rw [Nat.zero_add]
      refine ⟨cell_in h1 (h2 _ _ g0), cell_in h1 (h2 _ _ g1), cell_in h1 (h2 _ _ g2), hsy.1, by rw [erases_len]; exact hsy.2.1, a', c', by rw [erases_len]; exact cell_in h1 (h2 _ _ g3), hk⟩
end Go.Proofs.YtpebfdplapeejaaGreatDoor
