/-
  THE LAW's WALK of FnRangeRests.
-/
import Derived.Test.YtalmodnchcnofaaDrz
import Derived.Test.YtalmodnchcnofaaPot
import Derived.Test.YtalmodnchcnofaaWe
namespace Go.Proofs.Ytalmodnchcnofaa
open Go.RowKit

theorem neq_rng (w : World) (a b c d : Int) : (Go.binOp .neq 25 (.agg #[.int .i64 a, .int .i64 b]) (.agg #[.int .i64 c, .int .i64 d])).run Try.prog w = .ok (.bool (!eqB a b c d)) w := by
  have u3 := Try.underlying3
  have a3 := Try.isAgg3
  have z3 := Try.sizeOf3
  have hS : Try.prog.underlying 25 = some (.struct (Try.prog.fieldsOf 25)) := by kernel_rfl
  have hp : Try.prog.stoodInHeld 25 = false := by kernel_rfl
  rw [run_neq_struct, show (10000 : Nat) = 9999 + 1 from rfl, run_equalIn_agg w 9999 25 _ _ hS hp]
  simp only [Program.fieldsOf, Try.underlying25]
  go_simp
  unfold eqB
  by_cases h1 : a = c <;> by_cases h2 : b = d <;> simp [h1, h2]
attribute [local go_sem] nlt2 nlt3 nlt4 nle2 nle3 nle4 drew_size drew_cell drew_frozen
theorem lpickI_any (n cap B : Nat) (t m : Int) (a : Option Addr) (w : World) (hn : n ≤ 1048576) (hb : Bytes w B a n) (ht0 : 0 ≤ t) (ht : t ≤ 100) (hm0 : 2 ≤ m) (hm : m ≤ 10000) :
    Calls Try.prog 8 #[.slice a n cap, .int .i64 t, .int .i64 m] w fun e w' => ∃ r : Int, e = .returned (.int .i64 r) ∧ 0 ≤ r ∧ r < m ∧ w = w' := by
  obtain ⟨k, rfl⟩ : ∃ k : Nat, t = k := ⟨t.toNat, by omega⟩
  exact lpick_any n cap B k m a w hn hb (by omega) hm0 hm
/-- What holds from round to round: how often it changed. -/
def Inv (l : List Int) (a b : Int) (ch : Nat) : Prop := okB a b = true ∧ (if stepsB l then ch + pot l (a, b) ≤ 2 * l.length + 3 else (ch = 0 ∨ (a = 1 ∧ b = 0 ∧ ch ≤ 1)))
theorem Inv.end {l : List Int} {a b : Int} {ch : Nat} (h : Inv l a b ch) : ch ≤ 2 * l.length + 3 := by
  obtain ⟨_, h⟩ := h
  cases hs : stepsB l <;> simp [hs] at h <;> omega
theorem eqB_iff {a b c d : Int} : eqB a b c d = true ↔ a = c ∧ b = d := by unfold eqB; simp
theorem Inv.same {l : List Int} {a b c d : Int} {ch : Nat} (h : Inv l a b ch) (he : eqB (widenM a b c d l).1 (widenM a b c d l).2 a b = true) : Inv l (widenM a b c d l).1 (widenM a b c d l).2 ch := by
  obtain ⟨e1, e2⟩ := eqB_iff.1 he
  rw [e1, e2]; exact h
theorem Inv.step {l : List Int} {a b c d : Int} {ch : Nat} (h : Inv l a b ch) (h2 : okB c d = true) (g2 : isB c d = true) (he : eqB (widenM a b c d l).1 (widenM a b c d l).2 a b = false) : Inv l (widenM a b c d l).1 (widenM a b c d l).2 (ch + 1) := by
  obtain ⟨h1, h⟩ := h
  cases hs : stepsB l
  · have e := widen_none (a := a) (b := b) (c := c) (d := d) hs
    rw [e] at he ⊢
    refine ⟨by decide, ?_⟩
    rw [hs] at h ⊢
    rw [if_neg (by simp)] at h ⊢
    rcases h with h | ⟨rfl, rfl, _⟩
    · exact .inr ⟨rfl, rfl, by omega⟩
    · simp [eqB] at he
  · obtain ⟨w1, w2⟩ := widen_pot h1 h2 g2 hs
    refine ⟨w1, ?_⟩
    simp [hs] at h ⊢
    have hne : widenM a b c d l ≠ (a, b) := fun e => by
      rw [e] at he
      have : eqB a b a b = true := eqB_iff.2 ⟨rfl, rfl⟩
      rw [this] at he; cases he
    have h9 := w2 hne
    show ch + 1 + pot l (widenM a b c d l) ≤ _
    omega
theorem Inv.ok {l : List Int} {a b : Int} {ch : Nat} (h : Inv l a b ch) : okB a b = true := h.1
theorem Inv.start {l : List Int} {a b : Int} (h : okB a b = true) : Inv l a b 0 := by
  refine ⟨h, ?_⟩
  cases hs : stepsB l <;> simp
  have := pot_le l (a, b)
  omega
def Rs (w v : World) (P g : Nat) (a b : Int) (l : List Int) (ad : Option Addr) (n1 : Nat) : Prop := Box v P a b ∧ IntsIn v l g 0 ∧ Bytes v w.heap.size ad n1 ∧ w.heap.size ≤ P ∧ g ≠ P ∧ Below w.heap.size w v
theorem Rs.below {w v v' : World} {P g n1 : Nat} {a b : Int} {l : List Int} {ad : Option Addr} (h : Rs w v P g a b l ad n1) (hb : Below v.heap.size v v') : Rs w v' P g a b l ad n1 := by
  obtain ⟨h1, h2, h3, h4, h5, h6⟩ := h
  exact ⟨h1.below hb, h2.below hb, h3.up (Nat.le_refl _) (hb.mono h6.size), h4, h5, below_step h6 hb⟩
theorem Rs.store {w v : World} {P g n1 : Nat} {a b a' b' : Int} {l : List Int} {ad : Option Addr} (h : Rs w v P g a b l ad n1) : Rs w ((v.setCell ⟨P, 0, none⟩ (.int .i64 a')).setCell ⟨P, 1, none⟩ (.int .i64 b')) P g a' b' l ad n1 := by
  obtain ⟨⟨b0, b1, b2, b3⟩, h2, h3, h4, h5, h6⟩ := h
  have hb : Below w.heap.size v ((v.setCell ⟨P, 0, none⟩ (.int .i64 a')).setCell ⟨P, 1, none⟩ (.int .i64 b')) := ((Below.refl _ _).setCell (p := ⟨P, 0, none⟩) h4 _).setCell (p := ⟨P, 1, none⟩) h4 _
  refine ⟨?_, (h2.set h5).set h5, h3.up (Nat.le_refl _) hb, h4, h5, h6.trans hb⟩
  refine ⟨?_, ?_, ?_, ?_⟩ <;> simp [go_sem, *]

set_option maxHeartbeats 6400000 in
theorem rests_walk (ad0 ad1 : Option Addr) (n0 c0 n1 c1 : Nat) (w : World) (hn0 : n0 ≤ maxLen) (hn1 : n1 ≤ maxLen) (hb0 : Bytes w w.heap.size ad0 n0) (hb1 : Bytes w w.heap.size ad1 n1) :
    Calls Try.prog 3 #[.slice ad0 n0 c0, .slice ad1 n1 c1] w fun e w' => e = .returned (.bool true) ∧ Below w.heap.size w w' := by
  by_cases k0 : 1048576 < n0
  · have e0 : decide (1048576 < n0) = true := by simpa using k0
    have hEq := eql_rng
    have hNq := neq_rng
    go_enter Try.func3, Try.ntmps3
    go_wp2_with (go_at_call 4; refine (big_any _ _ _ _ hn0).mono ?_; rintro e w' ⟨rfl, rfl⟩)
    go_ret
    exact ⟨rfl, Below.refl _ _⟩
  by_cases k1 : 1048576 < n1
  · have e0 : decide (1048576 < n0) = false := by simpa using k0
    have e1 : decide (1048576 < n1) = true := by simpa using k1
    have hEq := eql_rng
    have hNq := neq_rng
    go_enter Try.func3, Try.ntmps3
    go_wp2_with fail
    refine (big_any _ _ _ _ hn0).mono ?_
    rintro e wx ⟨rfl, rfl⟩
    go_wp2_with fail
    refine (big_any _ _ _ _ hn1).mono ?_
    rintro e wx ⟨rfl, rfl⟩
    go_wp2
    go_ret
    exact ⟨rfl, Below.refl _ _⟩
  have e0 : decide (1048576 < n0) = false := by simpa using k0
  have e1 : decide (1048576 < n1) = false := by simpa using k1
  have m0 : n0 ≤ 1048576 := by omega
  have m1 : n1 ≤ 1048576 := by omega
  have HY := mkHid hb0
  have HZ := mkHid hb1
  clear hb0 hb1
  have hEq := eql_rng
  have hNq := neq_rng
  go_enter Try.func3, Try.ntmps3
  go_wp2_with fail
  refine (big_any _ _ _ _ hn0).mono ?_
  rintro e wx ⟨rfl, rfl⟩
  go_wp2_with fail
  refine (big_any _ _ _ _ hn1).mono ?_
  rintro e wx ⟨rfl, rfl⟩
  go_wp2_with fail
  refine (drawWiden_any n0 c0 ad0 _ m0 HY.out).mono ?_
  rintro e w1 ⟨x1, y1, x2, y2, l, g, cp, rfl, hl, hI, hgs, hb⟩
  clear hn0 hn1 e0 e1 k0 k1
  have HN : Hid (l.length ≤ maxLen) := mkHid (by unfold maxLen; omega)
  have K : Hid (Rs w ((w1.alloc (.cells #[.int .i64 x1, .int .i64 y1] 25)).alloc (.cells #[.int .i64 x2, .int .i64 y2] 25)) w1.heap.size g x1 y1 l ad1 n1) := mkHid (by
    have ha : Below w1.heap.size w1 ((w1.alloc (.cells #[.int .i64 x1, .int .i64 y1] 25)).alloc (.cells #[.int .i64 x2, .int .i64 y2] 25)) := bl_alloc (bl_alloc (Below.refl _ _) _) _
    refine ⟨?_, hI.below ha, (HZ.out.up (Nat.le_refl _) hb).up (Nat.le_refl _) (ha.mono hb.size), hb.size, by omega, below_step hb ha⟩
    refine ⟨?_, ?_, ?_, ?_⟩ <;> simp [go_sem])
  obtain ⟨P, hP⟩ : ∃ P, P = w1.heap.size := ⟨_, rfl⟩
  obtain ⟨v1, hv1⟩ : ∃ v, v = (w1.alloc (.cells #[.int .i64 x1, .int .i64 y1] 25)).alloc (.cells #[.int .i64 x2, .int .i64 y2] 25) := ⟨_, rfl⟩
  clear hb hI hgs HY HZ
  obtain ⟨⟨p0, p1, p2, p3⟩, _⟩ := K.out
  go_wp2_with fail
  rw [← hv1, ← hP]
  rw [← hv1, ← hP] at K
  clear p0 p1 p2 p3
  clear hv1 hP
  refine (sOk_any _ _ _).mono ?_
  rintro e w2 ⟨rfl, hb⟩
  have K := mkHid (K.out.below hb)
  clear hb
  obtain ⟨⟨p0, p1, p2, p3⟩, _⟩ := K.out
  cases h1 : okB x1 y1
  · have E : widenM x1 y1 x1 y1 l = (1, 0) := by unfold widenM; rw [h1]; rfl
    have E1 := congrArg Prod.fst E
    have E2 := congrArg Prod.snd E
    dsimp only at E1 E2
    have E3 : eqB 1 0 1 0 = true := by decide
    clear E
    go_wp2_with fail
    refine (iWiden_of _ _ _ _ l g 0 _ _ K.out.2.1 HN.out).mono ?_
    rintro e w3 ⟨rfl, hb⟩
    have K := mkHid (K.out.below hb)
    clear hb
    rw [E1, E2]
    go_wp2
    go_ret
    exact ⟨ret_bool E3, K.out.2.2.2.2.2⟩
  · have HV : Hid (Inv l x1 y1 0) := mkHid (Inv.start h1)
    clear h1 p0 p1 p2 p3
    go_wp2_with fail
    go_loopw [8, 9] (fun c k v => ∃ (j ch : Nat) (a b : Int), j ≤ 40 ∧ ch ≤ j ∧ k = .int .i64 j ∧ c = .int .i64 ch ∧ Inv l a b ch ∧ Rs w v P g a b l ad1 n1) (fun _ k _ => 40 - (intOf k).toNat)
    case atStart => exact ⟨0, 0, x1, y1, by omega, by omega, rfl, rfl, HV.out, K.out⟩
    case round =>
      clear HV K
      obtain ⟨j, ch, a, b, hj, hch, rfl, rfl, hV, hK⟩ := hrel
      have HV := mkHid hV
      have K := mkHid hK
      clear hV hK
      by_cases hlt : j < 40
      · go_wp2_with fail
        refine (lpickI_any n1 c1 w.heap.size _ 2001 ad1 _ m1 K.out.2.2.1 (by omega) (by omega) (by omega) (by omega)).mono ?_
        rintro e w2 ⟨q, rfl, q0, q1, rfl⟩
        go_wp2_with fail
        refine (lpickI_any n1 c1 w.heap.size _ 300 ad1 _ m1 K.out.2.2.1 (by omega) (by omega) (by omega) (by omega)).mono ?_
        rintro e w2 ⟨s, rfl, s0, s1, rfl⟩
        have hal := below_alloc wr (.cells #[.int .i64 (q - 1000), .int .i64 (q - 1000 + s)] 25)
        have K := mkHid (K.out.below hal)
        have X11 := mkHid (show Box (wr.alloc (.cells #[.int .i64 (q - 1000), .int .i64 (q - 1000 + s)] 25)) wr.heap.size (q - 1000) (q - 1000 + s) by refine ⟨?_, ?_, ?_, ?_⟩ <;> simp [go_sem])
        clear hal
        have hcd : okB (q - 1000) (q - 1000 + s) = true := ok_iff.2 (by omega)
        have gcd : isB (q - 1000) (q - 1000 + s) = true := is_iff.2 (by omega)
        have HCD := mkHid (And.intro hcd gcd)
        clear hcd gcd
        obtain ⟨⟨p0, p1, p2, p3⟩, _⟩ := K.out
        obtain ⟨p4, p5, p6, p7⟩ := X11.out
        obtain ⟨R, hR⟩ : ∃ R, R = wr.heap.size := ⟨_, rfl⟩
        go_wp2_with fail
        refine (iWiden_of _ _ _ _ l g 0 _ _ K.out.2.1 HN.out).mono ?_
        rintro e w3 ⟨rfl, hb⟩
        have K := mkHid (K.out.below hb)
        have X11 := mkHid (X11.out.below hb)
        clear hb p0 p1 p2 p3 p4 p5 p6 p7
        rw [← hR] at X11 ⊢
        clear hR
        obtain ⟨mx, hmx⟩ : ∃ x, x = (widenM a b (q - 1000) (q - 1000 + s) l).1 := ⟨_, rfl⟩
        obtain ⟨my, hmy⟩ : ∃ y, y = (widenM a b (q - 1000) (q - 1000 + s) l).2 := ⟨_, rfl⟩
        have HM := mkHid (And.intro hmx hmy)
        rw [← hmx, ← hmy]
        clear hmx hmy
        have hal := below_alloc w3 (.cells #[.int .i64 mx, .int .i64 my] 25)
        have K := mkHid (K.out.below hal)
        have X11 := mkHid (X11.out.below hal)
        have X12 := mkHid (show Box (w3.alloc (.cells #[.int .i64 mx, .int .i64 my] 25)) w3.heap.size mx my by refine ⟨?_, ?_, ?_, ?_⟩ <;> simp [go_sem])
        clear hal
        have HW : Hid (∀ W, IntsIn W l g 0 → Calls Try.prog 9 #[.agg #[.int .i64 a, .int .i64 b], .agg #[.int .i64 (q - 1000), .int .i64 (q - 1000 + s)], .slice (some ⟨g, 0, none⟩) l.length cp] W fun e w' => e = .returned (.agg #[.int .i64 mx, .int .i64 my]) ∧ Below W.heap.size W w') := mkHid (fun W hW => by
          rw [HM.out.1, HM.out.2]
          exact sWiden_of a b (q - 1000) (q - 1000 + s) l g 0 cp W hW HN.out)
        have hself : eqB mx my mx my = true := eqB_iff.2 ⟨rfl, rfl⟩
        have IS : Hid (eqB mx my a b = true → Inv l mx my ch) := mkHid (fun h => by rw [HM.out.1, HM.out.2] at h ⊢; exact HV.out.same h)
        have IC : Hid (eqB mx my a b = false → Inv l mx my (ch + 1)) := mkHid (fun h => by rw [HM.out.1, HM.out.2] at h ⊢; exact HV.out.step HCD.out.1 HCD.out.2 h)
        clear HM HV HCD
        obtain ⟨⟨p0, p1, p2, p3⟩, _⟩ := K.out
        obtain ⟨p4, p5, p6, p7⟩ := X11.out
        obtain ⟨p8, p9, p10, p11⟩ := X12.out
        obtain ⟨T, hT⟩ : ∃ T, T = w3.heap.size := ⟨_, rfl⟩
        go_wp2_with fail
        rw [← hT] at X12 p8 p9 p10 p11 ⊢
        clear hT
        go_region_held3 (fun v => v.cell? ⟨T, 0, none⟩ = some (.int .i64 mx) ∧ v.cell? ⟨T, 1, none⟩ = some (.int .i64 my) ∧ v.cell? ⟨P, 0, none⟩ = some (.int .i64 a) ∧ v.cell? ⟨P, 1, none⟩ = some (.int .i64 b) ∧ v.cell? ⟨R, 0, none⟩ = some (.int .i64 (q - 1000)) ∧ v.cell? ⟨R, 1, none⟩ = some (.int .i64 (q - 1000 + s))) (first | (simp (maxDischargeDepth := 12) [*, go_sem]; done) | assumption) (first | (go_at_call 9; refine (HW.out _ (K.out.2.1.below ((Below.refl _ _).drew))).mono ?_; rintro e w4 ⟨rfl, hb⟩; (try rw [below_drew] at hb); have K := mkHid (K.out.below hb); have X12 := mkHid (X12.out.below hb); have X11 := mkHid (X11.out.below hb); clear hb; obtain ⟨⟨p0, p1, p2, p3⟩, _⟩ := K.out; obtain ⟨p4, p5, p6, p7⟩ := X11.out; obtain ⟨p8, p9, p10, p11⟩ := X12.out))
        all_goals
          cases h9 : eqB mx my a b
          · have hI := IC.out h9
            have hok := hI.ok
            have HI := mkHid hI
            clear hI
            go_wp2_with fail
            refine (sOk_any _ _ _).mono ?_
            rintro e w5 ⟨rfl, hb⟩
            have K := mkHid ((K.out.store (a' := mx) (b' := my)).below hb)
            clear hb
            go_wp2
            go_roundw
            case rel => exact ⟨j + 1, ch + 1, mx, my, by omega, by omega, by go_num, by go_num, HI.out, K.out⟩
            case measure => simp [intOf]; omega
          · have hI := IS.out h9
            have hok := hI.ok
            have HI := mkHid hI
            clear hI
            go_wp2_with fail
            refine (sOk_any _ _ _).mono ?_
            rintro e w5 ⟨rfl, hb⟩
            have K := mkHid ((K.out.store (a' := mx) (b' := my)).below hb)
            clear hb
            go_wp2
            go_roundw
            case rel => exact ⟨j + 1, ch, mx, my, by omega, by omega, by go_num, rfl, HI.out, K.out⟩
            case measure => simp [intOf]; omega
      · have he := HV.out.end
        have he2 : (ch : Int) ≤ 2 * (l.length : Int) + 3 := by omega
        have ll : (l.length : Int) ≤ 30 := by omega
        clear he
        go_wp2
        go_ret
        exact ⟨ret_bool (by first | rfl | simp [he2]), K.out.2.2.2.2.2⟩
end Go.Proofs.Ytalmodnchcnofaa
