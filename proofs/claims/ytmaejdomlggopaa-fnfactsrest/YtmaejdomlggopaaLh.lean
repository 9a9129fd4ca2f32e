/-
  CONTRACTS of what the laws do with facts: szFacts, toFacts, eqFacts, markFacts, heldFacts.
-/
import Derived.Test.YtmaejdomlggopaaScl
namespace Go.Proofs.Ytmaejdomlggopaa
open Go.RowKit

def szR (left : Int) (n : Nat) : Int := if (n : Int) ≤ left then left - n else -1
set_option maxHeartbeats 400000 in
theorem szIntS_any (a : Option Addr) (n c : Nat) (left : Int) (w : World) (hn : n ≤ maxLen) (h0 : 0 ≤ left) (h1 : left ≤ 1048576) : Calls Try.prog 49 #[.slice a n c, .int .i64 left] w fun e w' => e = .returned (.int .i64 (szR left n)) ∧ w = w' := by
  unfold maxLen at hn
  have hw : IntKind.i64.wrap (left - (n : Int)) = left - n := IntWalk.i64_in _ (by omega)
  by_cases h : (n : Int) ≤ left
  · have e := mkHid (show szR left n = left - n from if_pos h)
    have hlt : ¬ (left - (n : Int) < 0) := by omega
    clear h
    go_enter Try.func49, Try.ntmps49
    go_wp2
    go_ret
    exact ⟨ret_int e.out.symm, rfl⟩
  · have e := mkHid (show szR left n = -1 from if_neg h)
    have hlt : left - (n : Int) < 0 := by omega
    clear h
    go_enter Try.func49, Try.ntmps49
    go_wp2
    go_ret
    exact ⟨ret_int e.out.symm, rfl⟩
set_option maxHeartbeats 400000 in
theorem szFacts_any (z : Int) (a : Option Addr) (n c : Nat) (left : Int) (w : World) (hn : n ≤ maxLen) (h0 : 0 ≤ left) (h1 : left ≤ 1048576) : Calls Try.prog 13 #[.agg #[.int .i64 z, .slice a n c], .int .i64 left] w fun e w' => e = .returned (.int .i64 (szR left n)) ∧ Below w.heap.size w w' := by
  have HN := mkHid hn
  have H0 := mkHid h0
  have H1 := mkHid h1
  obtain ⟨r, hr⟩ : ∃ r, szR left n = r := ⟨_, rfl⟩
  have HC : Hid (∀ v, Calls Try.prog 49 #[.slice a n c, .int .i64 left] v fun e w' => e = .returned (.int .i64 r) ∧ v = w') := mkHid fun v => by rw [← hr]; exact szIntS_any a n c left v HN.out H0.out H1.out
  rw [hr]
  have HR : Hid (r < 0 → r = -1) := mkHid fun h => by unfold szR at hr; split at hr <;> omega
  clear hr hn h0 h1
  by_cases h : r < 0
  · have e := mkHid (HR.out h)
    go_enter Try.func13, Try.ntmps13
    go_wp2_with (go_at_call 49; refine (HC.out _).mono ?_; rintro e w' ⟨rfl, rfl⟩)
    go_ret
    exact ⟨ret_int e.out.symm, (Below.refl _ _).alloc (Nat.le_refl _) _⟩
  · go_enter Try.func13, Try.ntmps13
    go_wp2_with (go_at_call 49; refine (HC.out _).mono ?_; rintro e w' ⟨rfl, rfl⟩)
    go_ret
    exact ⟨rfl, (Below.refl _ _).alloc (Nat.le_refl _) _⟩
set_option maxHeartbeats 800000 in
theorem toFacts_any (z : Int) (l : List Int) (a : Option Addr) (c : Nat) (w : World) (hn : l.length ≤ 1048576) (hl : IntsAt w a l) : Calls Try.prog 15 #[.agg #[.int .i64 z, .slice a l.length c]] w fun e w' => ∃ g, e = .returned (.agg #[.int .i64 z, .slice (some ⟨g, 0, none⟩) l.length l.length]) ∧ OwnI w' w.heap.size (.slice (some ⟨g, 0, none⟩) l.length l.length) l ∧ Below w.heap.size w w' := by
  have HN := mkHid hn
  have HL := mkHid hl
  clear hn hl
  have B0 : Hid (Below w.heap.size w (((w.alloc (.cells #[.int .i64 z, .slice a l.length c] 24)).alloc (.cells #[.int .i64 0, .slice none 0 0] 27)).alloc (.cells #[.int .i64 z, .slice none 0 0] 27))) :=
    mkHid ((((Below.refl _ _).alloc (Nat.le_refl _) _).alloc (by simp) _).alloc (by simp; omega) _)
  obtain ⟨W, hW⟩ : ∃ W, ((w.alloc (.cells #[.int .i64 z, .slice a l.length c] 24)).alloc (.cells #[.int .i64 0, .slice none 0 0] 27)).alloc (.cells #[.int .i64 z, .slice none 0 0] 27) = W := ⟨_, rfl⟩
  have q0 : W.cell? ⟨w.heap.size + 1 + 1, 0, none⟩ = some (.int .i64 z) := by rw [← hW]; simp [go_sem]
  have q1 : W.cell? ⟨w.heap.size + 1 + 1, 1, none⟩ = some (.slice none 0 0) := by rw [← hW]; simp [go_sem]
  have q2 : W.frozen? ⟨w.heap.size + 1 + 1, 1, none⟩ = false := by rw [← hW]; simp [go_sem]
  have q3 : W.cell? ⟨w.heap.size + 1, 0, none⟩ = some (.int .i64 0) := by rw [← hW]; simp [go_sem]
  have q4 : W.cell? ⟨w.heap.size + 1, 1, none⟩ = some (.slice none 0 0) := by rw [← hW]; simp [go_sem]
  have q5 : W.frozen? ⟨w.heap.size + 1, 0, none⟩ = false := by rw [← hW]; simp [go_sem]
  have q6 : W.frozen? ⟨w.heap.size + 1, 1, none⟩ = false := by rw [← hW]; simp [go_sem]
  have qs : w.heap.size + 1 + 1 < W.heap.size := World.block_lt_of_cell? W _ q0
  rw [hW] at B0
  have HQ := mkHid (show W.cell? ⟨w.heap.size + 1 + 1, 0, none⟩ = some (.int .i64 z) ∧ W.cell? ⟨w.heap.size + 1 + 1, 1, none⟩ = some (.slice none 0 0) ∧ W.frozen? ⟨w.heap.size + 1 + 1, 1, none⟩ = false ∧ W.cell? ⟨w.heap.size + 1, 0, none⟩ = some (.int .i64 0) ∧ W.cell? ⟨w.heap.size + 1, 1, none⟩ = some (.slice none 0 0) ∧ W.frozen? ⟨w.heap.size + 1, 0, none⟩ = false ∧ W.frozen? ⟨w.heap.size + 1, 1, none⟩ = false from ⟨q0, q1, q2, q3, q4, q5, q6⟩)
  have HW := mkHid hW
  clear hW q0 q1 q2 q3 q4 q5 q6
  go_enter Try.func15, Try.ntmps15
  go_wp2_with fail
  rw [HW.out]
  refine (toIntS_any l a c W HN.out (HL.out.below B0.out)).mono ?_
  rintro e w1 ⟨g, rfl, ho, hb⟩
  have hlt := ho.base_le
  obtain ⟨p0, p1, p2, p3, p4, p5, p6⟩ := HQ.out
  have r0 := (hb.cell (p := ⟨w.heap.size + 1 + 1, 0, none⟩) qs).trans p0
  have r1 := (hb.cell (p := ⟨w.heap.size + 1 + 1, 1, none⟩) qs).trans p1
  have r2 := (hb.frozen (p := ⟨w.heap.size + 1 + 1, 1, none⟩) qs).trans p2
  have r3 := (hb.cell (p := ⟨w.heap.size + 1, 0, none⟩) (Nat.lt_trans (Nat.lt_succ_self _) qs)).trans p3
  have r4 := (hb.cell (p := ⟨w.heap.size + 1, 1, none⟩) (Nat.lt_trans (Nat.lt_succ_self _) qs)).trans p4
  have r5 := (hb.frozen (p := ⟨w.heap.size + 1, 0, none⟩) (Nat.lt_trans (Nat.lt_succ_self _) qs)).trans p5
  have r6 := (hb.frozen (p := ⟨w.heap.size + 1, 1, none⟩) (Nat.lt_trans (Nat.lt_succ_self _) qs)).trans p6
  have B1 := mkHid (below_step B0.out hb)
  have HO := mkHid (show OwnI w1 w.heap.size (.slice (some ⟨g, 0, none⟩) l.length l.length) l from ho.mono (by have := B0.out.size; omega))
  have hg : w.heap.size + 1 + 1 < g := by omega
  clear p0 p1 p2 p3 p4 p5 p6 hb ho HQ HW B0
  go_wp2
  refine bodyPost_ret (v := .agg #[.int .i64 z, .slice (some ⟨g, 0, none⟩) l.length l.length]) (by simp [results, Try.results15, go_sem, r3, r4]) rfl ⟨g, rfl, ?_, ?_⟩
  · have hlo : ∀ b, b < g → ∀ q, Value.ownBlock (.slice (some ⟨g, 0, none⟩) l.length l.length) = some q → some b ≠ some q := fun b hb q hq => by have e : g = q := Option.some.inj hq; subst e; exact some_ne (by omega)
    exact ((HO.out.grown (grown_setCell _ ⟨w.heap.size + 1 + 1, 1, none⟩ _) (hlo _ (by dsimp only; omega))).grown (grown_setCell _ ⟨w.heap.size + 1, 0, none⟩ _) (hlo _ (by dsimp only; omega))).grown (grown_setCell _ ⟨w.heap.size + 1, 1, none⟩ _) (hlo _ (by dsimp only; omega))
  · exact ((B1.out.setCell (p := ⟨w.heap.size + 1 + 1, 1, none⟩) (by simp; omega) _).setCell (p := ⟨w.heap.size + 1, 0, none⟩) (by simp) _).setCell (p := ⟨w.heap.size + 1, 1, none⟩) (by simp) _
set_option maxHeartbeats 400000 in
theorem eqFacts_ok (z : Int) (l : List Int) (a a' : Option Addr) (c c' : Nat) (w : World) (hn : l.length ≤ maxLen) (hl : IntsAt w a l) (hl' : IntsAt w a' l) : Calls Try.prog 17 #[.agg #[.int .i64 z, .slice a l.length c], .agg #[.int .i64 z, .slice a' l.length c']] w fun e w' => e = .returned (.bool true) ∧ Below w.heap.size w w' := by
  have B0 := mkHid (((Below.refl w.heap.size w).alloc (Nat.le_refl _) (.cells #[.int .i64 z, .slice a l.length c] 27)).alloc (by simp) (.cells #[.int .i64 z, .slice a' l.length c'] 27))
  have HN := mkHid hn
  have HL := mkHid hl
  have HL' := mkHid hl'
  clear hn hl hl'
  go_enter Try.func17, Try.ntmps17
  go_wp2_with fail
  refine (eqIntS_ok l a a' c c' _ HN.out (HL.out.below B0.out) (HL'.out.below B0.out)).mono ?_
  rintro e w1 ⟨rfl, hb⟩
  have B1 := mkHid (below_step B0.out hb)
  clear hb
  go_wp2
  go_ret
  exact ⟨rfl, B1.out⟩
set_option maxHeartbeats 400000 in
theorem markFacts_ok (z : Int) (l : List Int) (ao : Option Addr) (cap base : Nat) (k0 : Int) (w : World) (hn : l.length ≤ 10000000) (h0 : 0 ≤ k0) (h1 : k0 ≤ 10000000) (hown : OwnI w base (.slice ao l.length cap) l) :
    Calls Try.prog 20 #[.agg #[.int .i64 z, .slice ao l.length cap], .int .i64 k0] w fun e w' => e = .returned (.int .i64 (k0 + l.length)) ∧ OwnI w' base (.slice ao l.length cap) (marksI k0 l.length) ∧ w.grownBy w' (Value.ownBlock (.slice ao l.length cap)) := by
  have A0 := mkHid ((Below.refl w.heap.size w).alloc (Nat.le_refl _) (.cells #[.int .i64 z, .slice ao l.length cap] 27))
  have G0 := mkHid (World.grownBy_alloc w (.cells #[.int .i64 z, .slice ao l.length cap] 27) (Value.ownBlock (.slice ao l.length cap)))
  have HN := mkHid hn
  have H0 := mkHid h0
  have H1 := mkHid h1
  have HO := mkHid hown
  clear hn h0 h1 hown
  go_enter Try.func20, Try.ntmps20
  go_wp2_with fail
  refine (markIntS_ok l ao cap base k0 _ HN.out H0.out H1.out (HO.out.below A0.out)).mono ?_
  rintro e w1 ⟨rfl, ho, hg⟩
  have HO1 := mkHid ho
  have HG1 := mkHid (World.grownBy.trans G0.out hg)
  clear ho hg
  go_wp2
  go_ret
  exact ⟨rfl, HO1.out, HG1.out⟩
set_option maxHeartbeats 400000 in
theorem heldFacts_ok (z : Int) (n : Nat) (a : Option Addr) (c : Nat) (k0 : Int) (w : World) (hn : n ≤ 10000000) (h0 : 0 ≤ k0) (h1 : k0 ≤ 10000000) (hl : IntsAt w a (marksI k0 n)) :
    Calls Try.prog 21 #[.agg #[.int .i64 z, .slice a n c], .int .i64 k0] w fun e w' => e = .returned (.int .i64 (k0 + n)) ∧ Below w.heap.size w w' := by
  have A0 := mkHid ((Below.refl w.heap.size w).alloc (Nat.le_refl _) (.cells #[.int .i64 z, .slice a n c] 27))
  have HN := mkHid hn
  have H0 := mkHid h0
  have H1 := mkHid h1
  have HL := mkHid hl
  have hq0 : ¬ (k0 + (n : Int) < 0) := by omega
  clear hn h0 h1 hl
  go_enter Try.func21, Try.ntmps21
  go_wp2_with fail
  refine (heldIntS_ok n a c k0 _ HN.out H0.out H1.out (HL.out.below A0.out)).mono ?_
  rintro e w1 ⟨rfl, rfl⟩
  go_wp2
  go_ret
  exact ⟨rfl, A0.out⟩
end Go.Proofs.Ytmaejdomlggopaa
