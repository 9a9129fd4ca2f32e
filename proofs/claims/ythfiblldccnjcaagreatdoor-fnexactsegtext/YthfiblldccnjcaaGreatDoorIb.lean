/-
  CONTRACTS of the program's isBound, areBounds, isInLimits, areValsOk, SegOk.
-/
import Derived.Test.YthfiblldccnjcaaGreatDoorSe
import Derived.Test.YthfiblldccnjcaaGreatDoorVh
namespace Go.Proofs.YthfiblldccnjcaaGreatDoor
open Go.RowKit

theorem Own.one {w : World} {ao : Option Addr} {cap : Nat} {g : Nat} {l : List Y} (hg : w.cell? ⟨g, 0, none⟩ = some (.slice ao l.length cap)) (h : At eY w ao l) : BndsAt w (some ⟨g, 0, none⟩) [l] :=
  .inr ⟨g, 0, rfl, fun i l' hl => by
    match i, hl with
    | 0, hl => simp at hl; subst hl; exact ⟨ao, cap, hg, h⟩⟩
theorem field80 (a : Option Addr) (n c : Nat) (w : World) : (Instr.field 93 (.agg #[.slice a n c, .func (.func 72) #[] #[]]) 0).run Tryz.prog w = .ok (.slice a n c) w := by kernel_rfl
set_option maxRecDepth 100000 in
set_option maxHeartbeats 3200000 in
theorem isBound_any (n : Int) (l : List Y) (a : Option Addr) (c : Nat) (w : World) (hn : l.length ≤ 1048576) (hl : At eY w a l) :
    Calls Tryz.prog 63 #[.int .i64 n, .slice a l.length c] w fun e w' => Tells w w' e (RowP n l) := by
  have hFd := field80
  have HL := mkHid hl
  clear hl
  go_enter Tryz.func63, Tryz.ntmps63
  go_wp2
  go_loopg [9] l.length (fun g s9 wr => ∃ (k : Nat), k ≤ l.length ∧ s9 = .int .i64 k ∧ l.length - k ≤ g ∧ (∀ q x, q < k → l[q]? = some x → symP n x) ∧ Below w.heap.size w wr)
  case atStart => exact ⟨0, Nat.zero_le _, rfl, by omega, fun q x h => by omega, Below.refl _ _⟩
  case round =>
    obtain ⟨k, hk, rfl, hgk, hsy, hbel⟩ := hrel
    have HS := mkHid hsy
    have HB := mkHid hbel
    clear hsy
    by_cases hlt : k < l.length
    · obtain ⟨x, hx⟩ : ∃ x, l[k]? = some x := ⟨_, List.getElem?_eq_getElem hlt⟩
      obtain ⟨b, off, rfl, _, hq⟩ := (HL.out.below hbel).cons (by omega)
      obtain ⟨c0, c1⟩ := get_y hq hx
      have HX := mkHid hx
      clear hq hbel hx
      have i0 : (0 : Int) ≤ (k : Int) := by omega
      have i1 : (k : Int) < (l.length : Int) := by omega
      go_wp2_with fail
      refine (iSymOk_any n x.1 x.2 _).mono ?_
      rintro e w1 ⟨rfl, hb⟩
      have HB1 := mkHid (below_step (bl_alloc HB.out (.cells #[.int .i64 x.1, .int .i64 x.2] 61)) hb)
      clear hb c0 c1
      cases hso : symOkB n x.1 x.2
      · have HNO : Hid (¬ RowP n l) := mkHid fun h => Bool.false_ne_true (hso.symm.trans ((symB_iff n x).2 (h.sym x (List.mem_of_getElem? HX.out))))
        go_wp2
        go_ret
        exact Tells.no HB1.out HNO.out
      · have HNX : Hid (∀ q x, q < k + 1 → l[q]? = some x → symP n x) := mkHid fun q y hq hy => (by omega : q < k ∨ q = k).elim (fun h => HS.out q y h hy) (fun h => by subst h; rw [HX.out] at hy; cases hy; exact (symB_iff n x).1 hso)
        go_wp2
        go_roundg (l.length - (k + 1))
        case measure => omega
        case rel => exact ⟨k + 1, by omega, by go_num, Nat.le_refl _, HNX.out, HB1.out⟩
    · have HSA : Hid (∀ p, p ∈ l → symP n p) := mkHid fun p hp => by obtain ⟨q, hq, rfl⟩ := List.getElem_of_mem hp; exact HS.out q _ (by omega) (List.getElem?_eq_getElem hq)
      have i1 : ¬ (k : Int) < (l.length : Int) := by omega
      clear hbel
      by_cases hne : l.length = 0
      · have HNO : Hid (¬ RowP n l) := mkHid fun h => h.ne (List.length_eq_zero_iff.1 hne)
        have hz : ¬ (0 : Int) < (l.length : Int) := by omega
        have hz2 : decide (0 < l.length) = false := decide_eq_false (by omega)
        go_wp2
        go_ret
        exact Tells.no HB.out HNO.out
      · have hz : (0 : Int) < (l.length : Int) := by omega
        have hz2 : decide (0 < l.length) = true := decide_eq_true (by omega)
        obtain ⟨wa, hwa⟩ : ∃ x : World, wr.alloc (.cells #[.slice a l.length c] 58) = x := ⟨_, rfl⟩
        obtain ⟨R, hR⟩ : ∃ x, wr.heap.size = x := ⟨_, rfl⟩
        have BA : Hid (Below wr.heap.size wr wa) := mkHid (by rw [← hwa]; exact bl_alloc (Below.refl _ _) _)
        have CA : Hid (wa.cell? ⟨R, 0, none⟩ = some (.slice a l.length c)) := mkHid (by rw [← hwa, ← hR]; simp [go_sem])
        have HLA := mkHid (HL.out.below (below_step HB.out BA.out))
        go_wp2_with fail
        clear hwa hR
        refine (termsOf_any [l] (some ⟨R, 0, none⟩) 1 _ (by simp) (by simpa using hn) (Own.one CA.out HLA.out)).mono ?_
        rintro e w1 ⟨hb, m, ao, cap, rfl, hset, ho⟩
        have HSE : Hid (IsSet m l) := mkHid (by simpa using hset)
        have HO := mkHid ho
        have HB1 := mkHid (below_step (below_step HB.out BA.out) hb)
        have HLB := mkHid (HLA.out.below hb)
        clear hset ho hb
        go_wp2_with fail
        refine (equal_any l m a ao c cap _ (by unfold maxLen; omega) HLB.out HO.out.at).mono ?_
        rintro e w2 ⟨hb, r, rfl, hr⟩
        have HB2 := mkHid (below_step HB1.out hb)
        have HRR := mkHid hr
        clear hb hr
        cases hrb : r
        · have HNO : Hid (¬ RowP n l) := mkHid fun h => by have := HRR.out.2 ((HSE.out.same).2 h.asc); rw [hrb] at this; cases this
          subst hrb
          go_wp2
          go_ret
          exact Tells.no HB2.out HNO.out
        · have HYES : Hid (RowP n l) := mkHid ⟨fun e => hne (by rw [e]; rfl), HSA.out, (HSE.out.same).1 (HRR.out.1 hrb)⟩
          subst hrb
          go_wp2
          go_ret
          exact Tells.yes HB2.out HYES.out
structure ValsP (V : List VV) : Prop where
  ok : ∀ v, v ∈ V → okB v.1 v.2.1 = true
structure BndP (n : Int) (B : List (List Y)) : Prop where
  rows : ∀ b, b ∈ B → RowP n b
  nodup : B.flatten.Nodup
set_option maxRecDepth 100000 in
set_option maxHeartbeats 3200000 in
theorem areBounds_any (n : Int) (B : List (List Y)) (a : Option Addr) (c : Nat) (w : World) (hn : B.length ≤ 1048576) (ht : B.flatten.length ≤ 1048576) (hl : BndsAt w a B) :
    Calls Tryz.prog 42 #[.int .i64 n, .slice a B.length c] w fun e w' => Tells w w' e (BndP n B) := by
  have hFd := field80
  have HL := mkHid hl
  clear hl
  go_enter Tryz.func42, Tryz.ntmps42
  go_wp2
  go_loopg [5, 10, 7] B.length (fun g s5 s10 s7 wr => ∃ (k : Nat), k ≤ B.length ∧ s10 = .int .i64 k ∧ s5 = .int .i64 ((B.take k).flatten.length : Nat) ∧ B.length - k ≤ g ∧ (∀ q b, q < k → B[q]? = some b → RowP n b) ∧ Below w.heap.size w wr)
  case atStart => exact ⟨0, Nat.zero_le _, rfl, rfl, by omega, fun q x h => by omega, Below.refl _ _⟩
  case round =>
    obtain ⟨k, hk, rfl, rfl, hgk, hro, hbel⟩ := hrel
    have HS := mkHid hro
    have HB := mkHid hbel
    obtain ⟨tt, htt⟩ : ∃ tt, (B.take k).flatten.length = tt := ⟨_, rfl⟩
    have HTT := mkHid htt
    have hle1 : tt ≤ 1048576 := by have h1 := tot_take B k; omega
    rw [htt]
    clear hro htt
    by_cases hlt : k < B.length
    · obtain ⟨l, hx⟩ : ∃ x, B[k]? = some x := ⟨_, List.getElem?_eq_getElem hlt⟩
      obtain ⟨b, off, rfl, _, hq⟩ := (HL.out.below hbel).cons (by omega)
      obtain ⟨ao, cp, c0, hat⟩ := hq k l hx
      have HX := mkHid hx
      have HAT := mkHid hat
      have HSU := mkHid (tot_succ hx)
      have hle2 : tt + l.length ≤ 1048576 := by have h1 := tot_take B (k + 1); rw [HSU.out, HTT.out] at h1; omega
      clear hq hbel hx hat
      have i0 : (0 : Int) ≤ (k : Int) := by omega
      have i1 : (k : Int) < (B.length : Int) := by omega
      go_wp2_with fail
      refine (isBound_any n l ao cp _ (by omega) HAT.out).mono ?_
      rintro e w1 ⟨hb, r, rfl, hr⟩
      have HB1 := mkHid (below_step HB.out hb)
      have HRR := mkHid hr
      clear hb hr c0
      cases hrb : r
      · have HNO : Hid (¬ BndP n B) := mkHid fun h => by have := HRR.out.2 (h.rows l (List.mem_of_getElem? HX.out)); rw [hrb] at this; cases this
        subst hrb
        go_wp2
        go_ret
        exact Tells.no HB1.out HNO.out
      · have HNX : Hid (∀ q b, q < k + 1 → B[q]? = some b → RowP n b) := mkHid fun q y hq hy => (by omega : q < k ∨ q = k).elim (fun h => HS.out q y h hy) (fun h => by subst h; rw [HX.out] at hy; cases hy; exact HRR.out.1 hrb)
        subst hrb
        go_wp2
        go_roundg (B.length - (k + 1))
        case measure => omega
        case rel => exact ⟨k + 1, by omega, by go_num, by rw [HSU.out, HTT.out]; simp, Nat.le_refl _, HNX.out, HB1.out⟩
    · have e : k = B.length := by omega
      have HTA : Hid (B.flatten.length = tt) := mkHid (by have h := HTT.out; rw [e, List.take_length] at h; exact h)
      have HRA : Hid (∀ b, b ∈ B → RowP n b) := mkHid fun b hb => by obtain ⟨q, hq, rfl⟩ := List.getElem_of_mem hb; exact HS.out q _ (by omega) (List.getElem?_eq_getElem hq)
      have i1 : ¬ (k : Int) < (B.length : Int) := by omega
      clear e
      go_wp2_with fail
      refine (termsOf_any B a c _ hn ht (HL.out.below HB.out)).mono ?_
      rintro e w1 ⟨hb, m, ao, cap, rfl, hset, _⟩
      have HSE := mkHid hset
      have HB1 := mkHid (below_step HB.out hb)
      clear hset hb hbel
      by_cases heq : m.length = tt
      · have h1 : ((m.length : Int) == (tt : Int)) = true := beq_iff_eq.2 (by omega)
        have HYES : Hid (BndP n B) := mkHid ⟨HRA.out, (HSE.out.full).1 (by rw [heq, HTA.out])⟩
        clear heq
        go_wp2
        go_ret
        exact Tells.yes HB1.out HYES.out
      · have h1 : ((m.length : Int) == (tt : Int)) = false := beq_eq_false_iff_ne.2 (by omega)
        have HNO : Hid (¬ BndP n B) := mkHid fun h => heq (by rw [(HSE.out.full).2 h.nodup, HTA.out])
        clear heq
        go_wp2
        go_ret
        exact Tells.no HB1.out HNO.out
set_option maxRecDepth 100000 in
set_option maxHeartbeats 3200000 in
theorem areVals_any (V : List VV) (a : Option Addr) (c : Nat) (w : World) (hn : V.length ≤ 1048576) (hl : At eV w a V) :
    Calls Tryz.prog 44 #[.slice a V.length c] w fun e w' => Tells w w' e (ValsP V) := by
  have HL := mkHid hl
  clear hl
  go_enter Tryz.func44, Tryz.ntmps44
  go_wp2
  go_loopg [7] V.length (fun g s7 wr => ∃ (k : Nat), k ≤ V.length ∧ s7 = .int .i64 k ∧ V.length - k ≤ g ∧ (∀ q (x : VV), q < k → V[q]? = some x → okB x.1 x.2.1 = true) ∧ Below w.heap.size w wr)
  case atStart => exact ⟨0, Nat.zero_le _, rfl, by omega, fun q x h => by omega, Below.refl _ _⟩
  case round =>
    obtain ⟨k, hk, rfl, hgk, hsy, hbel⟩ := hrel
    have HS := mkHid hsy
    have HB := mkHid hbel
    clear hsy
    by_cases hlt : k < V.length
    · obtain ⟨x, hx⟩ : ∃ x, V[k]? = some x := ⟨_, List.getElem?_eq_getElem hlt⟩
      obtain ⟨b, off, rfl, _, hq⟩ := (HL.out.below hbel).cons (by omega)
      obtain ⟨c0, c1, c2⟩ := get_v hq hx
      have HX := mkHid hx
      clear hq hbel hx
      have i0 : (0 : Int) ≤ (k : Int) := by omega
      have i1 : (k : Int) < (V.length : Int) := by omega
      go_wp2_with fail
      refine (iVok_any x.1 x.2.1 x.2.2 _).mono ?_
      rintro e w1 ⟨rfl, hb⟩
      have HB1 := mkHid (below_step (bl_alloc HB.out (.cells #[.int .i64 x.1, .int .i64 x.2.1, .bool x.2.2] 68)) hb)
      clear hb c0 c1 c2
      cases hso : okB x.1 x.2.1
      · have HNO : Hid (¬ ValsP V) := mkHid fun h => Bool.false_ne_true (hso.symm.trans (h.ok x (List.mem_of_getElem? HX.out)))
        go_wp2
        go_ret
        exact Tells.no HB1.out HNO.out
      · have HNX : Hid (∀ q (x : VV), q < k + 1 → V[q]? = some x → okB x.1 x.2.1 = true) := mkHid fun q y hq hy => (by omega : q < k ∨ q = k).elim (fun h => HS.out q y h hy) (fun h => by subst h; rw [HX.out] at hy; cases hy; exact hso)
        go_wp2
        go_roundg (V.length - (k + 1))
        case measure => omega
        case rel => exact ⟨k + 1, by omega, by go_num, Nat.le_refl _, HNX.out, HB1.out⟩
    · have HSA : Hid (ValsP V) := mkHid ⟨fun p hp => by obtain ⟨q, hq, rfl⟩ := List.getElem_of_mem hp; exact HS.out q _ (by omega) (List.getElem?_eq_getElem hq)⟩
      have i1 : ¬ (k : Int) < (V.length : Int) := by omega
      clear hbel
      go_wp2
      go_ret
      exact Tells.yes HB.out HSA.out
end Go.Proofs.YthfiblldccnjcaaGreatDoor
