/-
  FnExactRangeWiden holds at every argument: the program's RangeWiden answers as the specification's, and the arguments read as before. No conditions.
-/
import Derived.Test.YtadpicpehoidjaaWe
import Derived.Test.YtadpicpehoidjaaWs
import Derived.Test.YtadpicpehoidjaaTi
import Derived.Test.YtadpicpehoidjaaReg
import Derived.ProofKit
import Derived.ChangeSlices
import Derived.Deep.Cut
import Derived.OpenShut
import Derived.ChangeOld
import Derived.Lib.SmallJoins
namespace Go.Proofs.Ytadpicpehoidjaa
open Go.ChangeShapes Go.WideShapes Go.ChangeAt Go.RowKit Go.Joins
attribute [local go_sem] nlt2 nlt3 nlt4 nle2 nle3 nle4 drew_size drew_cell drew_frozen

theorem Try.own : ownKnob Try.prog.godebug = none := by kernel_rfl
theorem Try.laidOut : laidOutB Try.prog = true := by kernel_rfl
theorem Try.cells23 : Try.prog.cellsOf 23 = 2 := by kernel_rfl

/-- A slice of ints that came in. -/
theorem open_intsof {H : Type} {enc : TypeId × Value → H} {W : World} {a : Option Addr} {len cap : Nat} {x : DataW H} {p : List MemPlace} (h : DataW.Trod enc Try.prog W 0 (fun _ => true) true 37 (.slice a len cap) x p) : ∃ l : List Int, len = l.length ∧ l.length ≤ maxLen ∧ IntsOf W l a := by
  obtain ⟨fuel, hf⟩ := h
  rcases open_ints Try.underlying37 Try.underlying3 (by kernel_rfl) hf with ⟨hcs, _⟩ | ⟨ad, ln, c, zs, hcs, _, hl, hm, hz, _, hcell, _⟩
  · simp [Value.cells] at hcs
    exact ⟨[], by simpa using hcs.2.1, by unfold maxLen; simp, .inl rfl⟩
  · simp [Value.cells] at hcs
    obtain ⟨rfl, rfl, rfl⟩ := hcs
    have hzl : zs.length = cap := by simpa using hz
    refine ⟨zs.take len, by simp; omega, by simp; omega, ?_⟩
    by_cases h0 : len = 0
    · exact .inl (by rw [h0]; simp)
    · obtain ⟨b, off, rfl, hc⟩ := ints_at hcell (by omega)
      refine .inr ⟨b, off, rfl, fun i y hy => ?_⟩
      have hi : i < len := by have := (List.getElem?_eq_some_iff.1 hy).1; simp at this; omega
      rw [hc i (by omega)]
      rw [List.getElem?_take, if_pos hi] at hy
      rw [List.getD_eq_getElem?_getD, hy]; rfl

set_option maxHeartbeats 8000000 in
theorem law_walk (a b c d : Int) (l : List Int) (ad : Option Addr) (cap : Nat) (w : World) (hn : l.length ≤ maxLen) (hl : IntsOf w l ad) : Calls Try.prog 13 #[.agg #[.int .i64 a, .int .i64 b], .agg #[.int .i64 c, .int .i64 d], .slice ad l.length cap] w fun e w' => e = .returned (.bool true) ∧ Below w.heap.size w w' := by
  have HS := mkHid hl
  have HN := mkHid hn
  unfold maxLen at hn
  clear hl
  by_cases hM : l.length ≤ 1048576
  · have HM := mkHid hM
    go_enter Try.func13, Try.ntmps13
    go_wp2_with fail
    go_cut [7] from 10 (fun s v => ∃ X : Nat, s = .pointer (some ⟨X, 0, none⟩) ∧ (v.cell? ⟨w.heap.size, 0, none⟩ = some (.int .i64 a) ∧ v.cell? ⟨w.heap.size, 1, none⟩ = some (.int .i64 b) ∧ v.cell? ⟨w.heap.size + 1, 0, none⟩ = some (.int .i64 c) ∧ v.cell? ⟨w.heap.size + 1, 1, none⟩ = some (.int .i64 d) ∧ v.cell? ⟨X, 0, none⟩ = some (.int .i64 (widenM a b c d l).1) ∧ v.cell? ⟨X, 1, none⟩ = some (.int .i64 (widenM a b c d l).2)) ∧ Below w.heap.size w v)
    case first =>
      go_region_held3 (fun v => v.cell? ⟨w.heap.size, 0, none⟩ = some (.int .i64 a) ∧ v.cell? ⟨w.heap.size, 1, none⟩ = some (.int .i64 b) ∧ v.cell? ⟨w.heap.size + 1, 0, none⟩ = some (.int .i64 c) ∧ v.cell? ⟨w.heap.size + 1, 1, none⟩ = some (.int .i64 d)) (first | (simp (maxDischargeDepth := 12) [*, go_sem]; done) | assumption) (first | (go_at_call 15; refine (toRange_any _ _ _).mono ?_; rintro e w9 ⟨rfl, hb⟩; (try rw [below_drew] at hb); obtain ⟨hc, hf, hm, hs⟩ := bcell4 hb; have hz0 : w.heap.size < w9.heap.size := (by have := hb.size; (try simp at this); omega); have hl0 := Nat.le_of_lt hz0; have hz1 : w.heap.size + 1 < w9.heap.size := (by have := hb.size; (try simp at this); omega); have hl1 := Nat.le_of_lt hz1; (try (have hy0 : w.heap.size + 2 < w9.heap.size := (by have := hb.size; (try simp at this); omega); have hx0 := Nat.ne_of_lt hy0; have hu0 := Ne.symm hx0)); (try (have hy1 : w'.heap.size < w9.heap.size := (by have := hb.size; (try simp at this); omega); have hx1 := Nat.ne_of_lt hy1; have hu1 := Ne.symm hx1)); (try (have hy2 : w'.heap.size + 1 < w9.heap.size := (by have := hb.size; (try simp at this); omega); have hx2 := Nat.ne_of_lt hy2; have hu2 := Ne.symm hx2)); obtain ⟨w', hww⟩ : ∃ x : World, x = w9 := ⟨_, rfl⟩; subst hww) | (go_at_call 37; refine (toIntS_any l _ _ _ HM.out (HS.out.below (by repeat (first | with_reducible exact Below.refl _ _ | (with_reducible refine bl_set2 ?_ ?_ _; (first | (simp; done) | (simp [*]; done) | (simp [*] <;> omega))) | with_reducible refine bl_drew ?_ | with_reducible refine bl_alloc ?_ _ | with_reducible refine below_step ?_ (by assumption) | with_reducible assumption)))).mono ?_; rintro e w9 ⟨g, rfl, hI, hb⟩; (try rw [below_drew] at hb); have HI := mkHid hI; clear hI; obtain ⟨hc, hf, hm, hs⟩ := bcell4 hb; have hz0 : w.heap.size < w9.heap.size := (by have := hb.size; (try simp at this); omega); have hl0 := Nat.le_of_lt hz0; have hz1 : w.heap.size + 1 < w9.heap.size := (by have := hb.size; (try simp at this); omega); have hl1 := Nat.le_of_lt hz1; (try (have hy0 : w.heap.size + 2 < w9.heap.size := (by have := hb.size; (try simp at this); omega); have hx0 := Nat.ne_of_lt hy0; have hu0 := Ne.symm hx0)); (try (have hy1 : w'.heap.size < w9.heap.size := (by have := hb.size; (try simp at this); omega); have hx1 := Nat.ne_of_lt hy1; have hu1 := Ne.symm hx1)); (try (have hy2 : w'.heap.size + 1 < w9.heap.size := (by have := hb.size; (try simp at this); omega); have hx2 := Nat.ne_of_lt hy2; have hu2 := Ne.symm hx2)); obtain ⟨w', hww⟩ : ∃ x : World, x = w9 := ⟨_, rfl⟩; subst hww) | (go_at_call 36; refine (sWiden_of _ _ _ _ l g 0 _ _ (HI.out.below (by repeat (first | with_reducible exact Below.refl _ _ | (with_reducible refine bl_set2 ?_ ?_ _; (first | (simp; done) | (simp [*]; done) | (simp [*] <;> omega))) | with_reducible refine bl_drew ?_ | with_reducible refine bl_alloc ?_ _ | with_reducible refine below_step ?_ (by assumption) | with_reducible assumption))) HN.out).mono ?_; rintro e w9 ⟨rfl, hb⟩; (try rw [below_drew] at hb); obtain ⟨hc, hf, hm, hs⟩ := bcell4 hb; have hz0 : w.heap.size < w9.heap.size := (by have := hb.size; (try simp at this); omega); have hl0 := Nat.le_of_lt hz0; have hz1 : w.heap.size + 1 < w9.heap.size := (by have := hb.size; (try simp at this); omega); have hl1 := Nat.le_of_lt hz1; (try (have hy0 : w.heap.size + 2 < w9.heap.size := (by have := hb.size; (try simp at this); omega); have hx0 := Nat.ne_of_lt hy0; have hu0 := Ne.symm hx0)); (try (have hy1 : w'.heap.size < w9.heap.size := (by have := hb.size; (try simp at this); omega); have hx1 := Nat.ne_of_lt hy1; have hu1 := Ne.symm hx1)); (try (have hy2 : w'.heap.size + 1 < w9.heap.size := (by have := hb.size; (try simp at this); omega); have hx2 := Nat.ne_of_lt hy2; have hu2 := Ne.symm hx2)); obtain ⟨w', hww⟩ : ∃ x : World, x = w9 := ⟨_, rfl⟩; subst hww))
      all_goals
        go_wp2_with fail
        go_meet
        case rel => exact ⟨_, rfl, (by (simp (maxDischargeDepth := 12) [*, go_sem]; done)), (by repeat (first | with_reducible exact Below.refl _ _ | (with_reducible refine bl_set2 ?_ ?_ _; (first | (simp; done) | (simp [*]; done) | (simp [*] <;> omega))) | with_reducible refine bl_drew ?_ | with_reducible refine bl_alloc ?_ _ | with_reducible refine below_step ?_ (by assumption) | with_reducible assumption))⟩
    case rest =>
      obtain ⟨X, rfl, ⟨p0, p1, p2, p3, p4, p5⟩, hB⟩ := hcut
      have hX := World.block_lt_of_cell? wc _ p4
      have hw0 := World.block_lt_of_cell? wc _ p0
      have hw1 := World.block_lt_of_cell? wc _ p2
      go_wp2_with fail
      refine (toIntS_any l _ _ _ HM.out (HS.out.below hB)).mono ?_
      rintro e wd ⟨g, rfl, hI, hb⟩
      have HI := mkHid hI
      have hB2 := below_step hB hb
      have K := mkHid (show (wd.cell? ⟨w.heap.size, 0, none⟩ = some (.int .i64 a) ∧ wd.cell? ⟨w.heap.size, 1, none⟩ = some (.int .i64 b) ∧ wd.cell? ⟨w.heap.size + 1, 0, none⟩ = some (.int .i64 c) ∧ wd.cell? ⟨w.heap.size + 1, 1, none⟩ = some (.int .i64 d) ∧ wd.cell? ⟨X, 0, none⟩ = some (.int .i64 (widenM a b c d l).1) ∧ wd.cell? ⟨X, 1, none⟩ = some (.int .i64 (widenM a b c d l).2)) ∧ Below w.heap.size w wd from ⟨⟨(hb.cell (p := ⟨_, 0, none⟩) hw0).trans p0, (hb.cell (p := ⟨_, 1, none⟩) hw0).trans p1, (hb.cell (p := ⟨_, 0, none⟩) hw1).trans p2, (hb.cell (p := ⟨_, 1, none⟩) hw1).trans p3, (hb.cell (p := ⟨_, 0, none⟩) hX).trans p4, (hb.cell (p := ⟨_, 1, none⟩) hX).trans p5⟩, hB2⟩)
      clear hI hB2 hb p0 p1 p2 p3 p4 p5 hB hX hw0 hw1
      obtain ⟨⟨p0, p1, p2, p3, p4, p5⟩, hB⟩ := K.out
      have hX := World.block_lt_of_cell? wd _ p4
      have hw0 := World.block_lt_of_cell? wd _ p0
      have hw1 := World.block_lt_of_cell? wd _ p2
      have hvX := Nat.le_of_lt hX
      have hv0 := Nat.le_of_lt hw0
      have hv1 := Nat.le_of_lt hw1
      clear K
      go_wp2_with fail
      go_cut [9] from 10 (fun s v => ∃ Y : Nat, s = .pointer (some ⟨Y, 0, none⟩) ∧ (v.cell? ⟨X, 0, none⟩ = some (.int .i64 (widenM a b c d l).1) ∧ v.cell? ⟨X, 1, none⟩ = some (.int .i64 (widenM a b c d l).2) ∧ v.cell? ⟨Y, 0, none⟩ = some (.int .i64 (widenM a b c d l).1) ∧ v.cell? ⟨Y, 1, none⟩ = some (.int .i64 (widenM a b c d l).2)) ∧ IntsIn v l g 0 ∧ Below w.heap.size w v)
      case first =>
        go_region_held3 (fun v => v.cell? ⟨w.heap.size, 0, none⟩ = some (.int .i64 a) ∧ v.cell? ⟨w.heap.size, 1, none⟩ = some (.int .i64 b) ∧ v.cell? ⟨w.heap.size + 1, 0, none⟩ = some (.int .i64 c) ∧ v.cell? ⟨w.heap.size + 1, 1, none⟩ = some (.int .i64 d) ∧ v.cell? ⟨X, 0, none⟩ = some (.int .i64 (widenM a b c d l).1) ∧ v.cell? ⟨X, 1, none⟩ = some (.int .i64 (widenM a b c d l).2)) (first | (simp (maxDischargeDepth := 12) [*, go_sem]; done) | assumption) (first | (go_at_call 15; refine (toRange_any _ _ _).mono ?_; rintro e w9 ⟨rfl, hb⟩; (try rw [below_drew] at hb); obtain ⟨hc, hf, hm, hs⟩ := bcell4 hb; have hz0 : w.heap.size < w9.heap.size := (by have := hb.size; (try simp at this); omega); have hl0 := Nat.le_of_lt hz0; have hz1 : w.heap.size + 1 < w9.heap.size := (by have := hb.size; (try simp at this); omega); have hl1 := Nat.le_of_lt hz1; have hz2 : X < w9.heap.size := (by have := hb.size; (try simp at this); omega); have hl2 := Nat.le_of_lt hz2; (try (have hy0 : wd.heap.size < w9.heap.size := (by have := hb.size; (try simp at this); omega); have hx0 := Nat.ne_of_lt hy0; have hu0 := Ne.symm hx0)); (try (have hy1 : w'.heap.size < w9.heap.size := (by have := hb.size; (try simp at this); omega); have hx1 := Nat.ne_of_lt hy1; have hu1 := Ne.symm hx1)); (try (have hy2 : w'.heap.size + 1 < w9.heap.size := (by have := hb.size; (try simp at this); omega); have hx2 := Nat.ne_of_lt hy2; have hu2 := Ne.symm hx2)); obtain ⟨w', hww⟩ : ∃ x : World, x = w9 := ⟨_, rfl⟩; subst hww) | (go_at_call 38; refine (iWiden_of _ _ _ _ l g 0 _ _ (HI.out.below (by repeat (first | with_reducible exact Below.refl _ _ | (with_reducible refine bl_set2 ?_ ?_ _; (first | (simp; done) | (simp [*]; done) | (simp [*] <;> omega))) | with_reducible refine bl_drew ?_ | with_reducible refine bl_alloc ?_ _ | with_reducible refine below_step ?_ (by assumption) | with_reducible assumption))) HN.out).mono ?_; rintro e w9 ⟨rfl, hb⟩; (try rw [below_drew] at hb); obtain ⟨hc, hf, hm, hs⟩ := bcell4 hb; have hz0 : w.heap.size < w9.heap.size := (by have := hb.size; (try simp at this); omega); have hl0 := Nat.le_of_lt hz0; have hz1 : w.heap.size + 1 < w9.heap.size := (by have := hb.size; (try simp at this); omega); have hl1 := Nat.le_of_lt hz1; have hz2 : X < w9.heap.size := (by have := hb.size; (try simp at this); omega); have hl2 := Nat.le_of_lt hz2; (try (have hy0 : wd.heap.size < w9.heap.size := (by have := hb.size; (try simp at this); omega); have hx0 := Nat.ne_of_lt hy0; have hu0 := Ne.symm hx0)); (try (have hy1 : w'.heap.size < w9.heap.size := (by have := hb.size; (try simp at this); omega); have hx1 := Nat.ne_of_lt hy1; have hu1 := Ne.symm hx1)); (try (have hy2 : w'.heap.size + 1 < w9.heap.size := (by have := hb.size; (try simp at this); omega); have hx2 := Nat.ne_of_lt hy2; have hu2 := Ne.symm hx2)); obtain ⟨w', hww⟩ : ∃ x : World, x = w9 := ⟨_, rfl⟩; subst hww))
        all_goals
          go_wp2_with fail
          go_meet
          case rel => exact ⟨_, rfl, (by (simp (maxDischargeDepth := 12) [*, go_sem]; done)), HI.out.below (by repeat (first | with_reducible exact Below.refl _ _ | (with_reducible refine bl_set2 ?_ ?_ _; (first | (simp; done) | (simp [*]; done) | (simp [*] <;> omega))) | with_reducible refine bl_drew ?_ | with_reducible refine bl_alloc ?_ _ | with_reducible refine below_step ?_ (by assumption) | with_reducible assumption)), (by repeat (first | with_reducible exact Below.refl _ _ | (with_reducible refine bl_set2 ?_ ?_ _; (first | (simp; done) | (simp [*]; done) | (simp [*] <;> omega))) | with_reducible refine bl_drew ?_ | with_reducible refine bl_alloc ?_ _ | with_reducible refine below_step ?_ (by assumption) | with_reducible assumption))⟩
      case rest =>
        clear p0 p1 p2 p3 p4 p5 hX hB hw0 hw1 hv0 hv1 hvX HI
        obtain ⟨Y, rfl, ⟨p0, p1, p2, p3⟩, hI, hB⟩ := hcut
        have HI := mkHid hI
        clear hI
        have hX := World.block_lt_of_cell? wc _ p0
        have hY := World.block_lt_of_cell? wc _ p2
        go_wp2_with fail
        refine (eqRange_same _ _ _).mono ?_
        rintro e w3 ⟨rfl, hb⟩
        have hB := below_step hB hb
        have HI := mkHid (HI.out.below hb)
        clear hb p0 p1 p2 p3 hX hY
        go_wp2_with fail
        refine (toIntS_any l _ _ _ HM.out (HS.out.below hB)).mono ?_
        rintro e w4 ⟨g2, rfl, hI2, hb⟩
        have hB := below_step hB hb
        have HI := mkHid (HI.out.below hb)
        have HI2 := mkHid hI2
        clear hb hI2
        go_wp2_with fail
        refine (eqIntS_of l g 0 _ g2 0 _ _ HN.out HI.out HI2.out).mono ?_
        rintro e w5 ⟨rfl, hb⟩
        have hB := below_step hB hb
        clear hb
        go_wp2
        go_ret
        exact ⟨rfl, hB⟩
  · have hM2 : (1048576 : Int) < (l.length : Int) := by omega
    go_enter Try.func13, Try.ntmps13
    go_wp2
    go_ret
    exact ⟨rfl, (by repeat (first | with_reducible exact Below.refl _ _ | (with_reducible refine bl_set2 ?_ ?_ _; (first | (simp; done) | (simp [*]; done) | (simp [*] <;> omega))) | with_reducible refine bl_drew ?_ | with_reducible refine bl_alloc ?_ _ | with_reducible refine below_step ?_ (by assumption) | with_reducible assumption))⟩

set_option maxRecDepth 100000 in
theorem law_lifted (os : Os) (started : os.Started) (H : Type) (enc : TypeId × Value → H) :
    ReturnsInHanded {} Try.checked os 13 .any (Rows.fnExactRangeWidenSpec.pre6 enc Try.prog Try.f13 Rows.fnExactRangeWidenRow.domain false) (Rows.fnExactRangeWidenSpec.post enc Try.prog Try.f13 false true false false) := by
  refine returnsInHanded_of_change (C := Try.checked) Try.own started (by kernel_rfl) Try.func13
    (ChangeSpec.witness6 (enc := enc) (C := Try.checked) false ⟨#[], #[.agg #[.int .i64 0, .int .i64 0], .agg #[.int .i64 0, .int .i64 0], .slice none 0 0], []⟩ 8 (by kernel_rfl) (by kernel_rfl) (by kernel_rfl) (by kernel_rfl)) ?_
  intro W base args ds gs before hval0 hW hcnd _
  have hval : ∀ (j : Nat) t v, Try.f13.params[j]? = some t → args[j]? = some v → Value.okWide Try.prog W .any base t v := hval0
  have hW' := hW
  obtain ⟨p, q, hA0, hV, rfl, hfz, hnd⟩ := hW
  have hA : DataW.TrodAll enc Try.prog W 0 (fun _ => true) true Try.f13.params.toList args.toList ds p := hA0
  rw [Try.params13] at hA hval
  obtain ⟨v0, vs0, d0, ds0, p0, q0, hargs, rfl, rfl, h0, r0⟩ := trodAll_cons hA
  obtain ⟨v1, vs1, d1, ds1, p1, q1, rfl, rfl, rfl, h1, r1⟩ := trodAll_cons r0
  obtain ⟨v2, vs2, d2, ds2, p2, q2, rfl, rfl, rfl, h2, r2⟩ := trodAll_cons r1
  obtain ⟨rfl, rfl, rfl⟩ := trodAll_nil r2
  obtain rfl : args = #[v0, v1, v2] := by cases args; simp_all
  obtain ⟨rfl, rfl⟩ := trodVars_none hV
  have k0 := h0
  have lt0 : ∀ x ∈ p0, x.block < W.heap.size := by obtain ⟨m, hm⟩ := k0; exact DataW.trod_lt m _ _ _ hm
  have k1 := h1
  have lt1 : ∀ x ∈ p1, x.block < W.heap.size := by obtain ⟨m, hm⟩ := k1; exact DataW.trod_lt m _ _ _ hm
  obtain ⟨u00, u01, y00, y01, m0, hv0, _, _, hy00, hy01⟩ := open_agg2 Try.underlying23 (by kernel_rfl) Try.cells23 (hval 0 23 v0 rfl rfl) h0
  obtain ⟨a, e00, _, _⟩ := DataW.trod_int Try.underlying3 hy00
  obtain ⟨b, e01, _, _⟩ := DataW.trod_int Try.underlying3 hy01
  simp at e00 e01
  subst e00 e01 hv0
  obtain ⟨u10, u11, y10, y11, m1, hv1, _, _, hy10, hy11⟩ := open_agg2 Try.underlying23 (by kernel_rfl) Try.cells23 (hval 1 23 v1 rfl rfl) h1
  obtain ⟨c, e10, _, _⟩ := DataW.trod_int Try.underlying3 hy10
  obtain ⟨d, e11, _, _⟩ := DataW.trod_int Try.underlying3 hy11
  simp at e10 e11
  subst e10 e11 hv1
  have k2 := h2
  have lt2 : ∀ x ∈ p2, x.block < W.heap.size := by obtain ⟨m, hm⟩ := k2; exact DataW.trod_lt m _ _ _ hm
  obtain ⟨ad, len, cap, rfl⟩ := okWide_slice Try.underlying37 (hval 2 37 v2 rfl rfl)
  obtain ⟨l, rfl, hlm, hlo⟩ := open_intsof h2
  clear hA0 hval0
  refine (law_walk a b c d l ad cap W hlm hlo).mono fun e W' ⟨he, bel⟩ => ?_
  subst he
  exact ⟨_, rfl, _, _, _, [], _, [], hW', trodAll_mk1 (shut_bool Try.underlying4 _), (trodAll_cons_mk (Below.trod Try.laidOut (by kernel_rfl) (of_decide_eq_true (by kernel_rfl)) k0 bel lt0) (trodAll_cons_mk (Below.trod Try.laidOut (by kernel_rfl) (of_decide_eq_true (by kernel_rfl)) k1 bel lt1) (trodAll_cons_mk (Below.trod Try.laidOut (by kernel_rfl) (of_decide_eq_true (by kernel_rfl)) k2 bel lt2) trodAll_mk0))), rfl, bel.frame _, fun h => by cases h⟩

theorem law_holds : Rows.FnExactRangeWidenSaid :=
  OpenClaim.holds_of_wide 13 Try.f13 rfl rfl rfl rfl rfl rfl rfl ⟨rfl, rfl, rfl, rfl, rfl⟩ rfl rfl rfl rfl rfl (by kernel_rfl) Try.func13 (by kernel_rfl)
    (of_decide_eq_true (by kernel_rfl)) (by unfold Func.isWrapper; first | (rw [if_pos (by decide +kernel)]; kernel_rfl) | (rw [if_neg (by decide +kernel)]; exact ⟨rfl, rfl⟩))
    (fun os started H enc _ => law_lifted os started H enc)

#print axioms law_holds
end Go.Proofs.Ytadpicpehoidjaa
