/-
  CONTRACTS of the specification's FactsOk.
  CONTRACT of the program's diffsOf.
  CONTRACT of the program's facts: a table given out.
-/
import Derived.Test.YtihpajiololfoaaGreatSh23
import Derived.Deep.RegionLaw
import Derived.Laws.CopyOwn
import Derived.Laws.IdiomCopy
import Derived.OwnWalk
namespace Go.Proofs.YtihpajiololfoaaGreat.Q
open Go.RowKit

set_option maxRecDepth 100000 in
set_option maxHeartbeats 1600000 in
theorem sOkF_any (z : Int) (l : List Int) (a : Option Addr) (c : Nat) (w : World) (hl : IntsAt w a l) : Calls Tryz.prog 125 #[.agg #[.int .i64 z, .slice a l.length c]] w fun e w' => e = .returned (.bool (okF z l)) ∧ Below w.heap.size w w' := by
  by_cases hz : 1 ≤ z ∧ z ≤ 13
  · have hbt : btw z 1 13 = true := decide_eq_true hz
    obtain ⟨n, rfl⟩ : ∃ n : Nat, z = n := ⟨z.toNat, by omega⟩
    have hsq := wrap_sq (n := n) (by omega)
    have hqq := sq_le (n := n) (by omega)
    have hq1 := sq_pos (n := n) (by omega)
    have hn0 : ¬ ((n : Int) = 0) := by omega
    have hn1 : 1 ≤ n := by omega
    have hn2 : n ≤ 13 := by omega
    clear hz
    by_cases hll : l.length = n * n
    · have HS : Hid (∀ (b : Bool), (∀ p, p < n * n → entB (p / n) (p % n) (l.getD p 0) = true) → okF n l = true) := mkHid fun _ h => ok_sure hn1 hn2 hll h
      have HU : Hid (∀ p, p < n * n → entB (p / n) (p % n) (l.getD p 0) = false → okF n l = false) := mkHid fun p hp h => ok_unsure (by omega) h
      have HL := mkHid hl
      have HLL := mkHid hll
      obtain ⟨q, hqe⟩ : ∃ q, n * n = q := ⟨_, rfl⟩
      rw [hqe] at hsq hqq hq1
      rw [hll, hqe]
      have HQ := mkHid hqe
      clear hl hqe hll
      have B0 := mkHid ((Below.refl w.heap.size w).alloc (Nat.le_refl _) (.cells #[.int .i64 n, .slice a q c] 38))
      have T0 := mkHid (two_new w n a q c 38)
      go_enter Tryz.func125, Tryz.ntmps125
      go_wp2_with (first | (go_at_call 95; refine (between_any _ _ _ _).mono ?_; rintro e w' ⟨rfl, rfl⟩))
      go_loopg [3] n (fun g s wr => ∃ (i : Nat), i + g = n ∧ s = .int .i64 i ∧ Sure n l (i * n) ∧ (wr.cell? ⟨w.heap.size, 0, none⟩ = some (.int .i64 n) ∧ wr.cell? ⟨w.heap.size, 1, none⟩ = some (.slice a q c)) ∧ Below w.heap.size w wr)
      case atStart => exact ⟨0, by omega, rfl, fun p hp => by omega, T0.out, B0.out⟩
      case round =>
        obtain ⟨i, hig, rfl, hsu, ⟨p0, p1⟩, hB⟩ := hrel
        have HSU := mkHid hsu
        have HB := mkHid hB
        clear hsu hB B0 T0
        cases gk with
        | zero =>
          have hlt : ¬ ((i : Int) < (n : Int)) := by omega
          have ei : i = n := by omega
          subst ei
          have e : Hid (okF i l = true) := mkHid (HS.out true (fun p hp => HSU.out p hp))
          go_wp2
          go_ret
          exact ⟨ret_bool e.out.symm, HB.out⟩
        | succ g =>
          have hlt : (i : Int) < (n : Int) := by omega
          have hlti : i < n := by omega
          obtain ⟨m, hm⟩ : ∃ m, i * n = m := ⟨_, rfl⟩
          have hmq : m + n ≤ q := by have := HQ.out; rw [← hm, ← this, show i * n + n = (i + 1) * n by rw [Nat.add_mul]; omega]; exact Nat.mul_le_mul_right n hlti
          have hwm : IntKind.i64.wrap ((i : Int) * (n : Int)) = (m : Int) := by rw [show (i : Int) * (n : Int) = ((i * n : Nat) : Int) by simp, hm]; exact IntWalk.i64_in _ (by omega)
          have HSN : Hid (Sure n l (m + n) → Sure n l ((i + 1) * n)) := mkHid fun h => by rw [show (i + 1) * n = m + n by rw [Nat.add_mul, hm]; omega]; exact h
          have HM := mkHid hm
          rw [hm] at HSU
          clear hm
          go_wp2_with fail
          go_loopg [4] n (fun g2 s wy => ∃ (j : Nat), j + g2 = n ∧ s = .int .i64 j ∧ Sure n l (m + j) ∧ (wy.cell? ⟨w.heap.size, 0, none⟩ = some (.int .i64 n) ∧ wy.cell? ⟨w.heap.size, 1, none⟩ = some (.slice a q c)) ∧ Below w.heap.size w wy)
          case atStart => exact ⟨0, by omega, rfl, HSU.out, ⟨p0, p1⟩, HB.out⟩
          case round =>
            clear HSU HB p0 p1
            obtain ⟨j, hjg, rfl, hsu, ⟨p0, p1⟩, hB⟩ := hrel
            have HSU := mkHid hsu
            have HB := mkHid hB
            clear hsu hB
            cases gk with
            | zero =>
              have hlt2 : ¬ ((j : Int) < (n : Int)) := by omega
              have ej : j = n := by omega
              subst ej
              go_wp2
              go_roundg g
              case measure => omega
              case rel => exact ⟨i + 1, by omega, by go_num, HSN.out HSU.out, ⟨p0, p1⟩, HB.out⟩
            | succ g2 =>
              have hlt2 : (j : Int) < (n : Int) := by omega
              obtain ⟨b, o, rfl, c0⟩ := IntsAt.get' (HL.out.below HB.out) (k := m + j) (by have := HQ.out; have := HLL.out; omega)
              obtain ⟨x, hx⟩ : ∃ x, l.getD (m + j) 0 = x := ⟨_, rfl⟩
              rw [hx] at c0
              obtain ⟨cp, hcp⟩ : ∃ cp, capT i j = cp := ⟨_, rfl⟩
              have HX := mkHid hx
              have HI : Hid ((m + j) / n = i) := mkHid (by rw [← HM.out]; exact idx_div (by omega))
              have HJ : Hid ((m + j) % n = j) := mkHid (by rw [← HM.out]; exact idx_mod (by omega))
              have hcap : ∀ v, Calls Tryz.prog 150 #[.int .i64 i, .int .i64 j] v fun e w' => e = .returned (.int .i64 cp) ∧ v = w' := fun v => by rw [← hcp]; exact sCap_any i j v
              have HC := mkHid hcp
              have HCA := mkHid hcap
              clear hx hcp hcap
              have k0 : (0 : Int) ≤ (m : Int) + (j : Int) := by omega
              have k1 : (m : Int) + (j : Int) < (q : Int) := by omega
              have HUK : Hid (entB i j x = false → okF n l = false) := mkHid fun h => HU.out (m + j) (by have := HQ.out; omega) (by rw [HI.out, HJ.out, HX.out]; exact h)
              have HSK : Hid (entB i j x = true → Sure n l (m + j + 1)) := mkHid fun h => HSU.out.next (by rw [HI.out, HJ.out, HX.out]; exact h)
              by_cases h1 : cp < x
              · have e := mkHid (ent_far (i := i) (j := j) (x := x) (by rw [HC.out]; exact h1))
                have hbw : btw x (-2000000) cp = false := decide_eq_false (fun e => by omega)
                clear h1
                go_wp2_with (first | (go_at_call 150; refine (HCA.out _).mono ?_; rintro e w' ⟨rfl, rfl⟩) | (go_at_call 95; refine (between_any _ _ _ _).mono ?_; rintro e w' ⟨rfl, rfl⟩))
                go_ret
                exact ⟨ret_bool (HUK.out e.out).symm, HB.out⟩
              · by_cases h2 : x < -2000000
                · have e := mkHid (ent_low (i := i) (j := j) h2)
                  have hbw : btw x (-2000000) cp = false := decide_eq_false (fun e => by omega)
                  clear h1 h2
                  go_wp2_with (first | (go_at_call 150; refine (HCA.out _).mono ?_; rintro e w' ⟨rfl, rfl⟩) | (go_at_call 95; refine (between_any _ _ _ _).mono ?_; rintro e w' ⟨rfl, rfl⟩))
                  go_ret
                  exact ⟨ret_bool (HUK.out e.out).symm, HB.out⟩
                · have hbw : btw x (-2000000) cp = true := decide_eq_true (by omega)
                  by_cases h3 : i = j
                  · have hb3 : ((i : Int) == (j : Int)) = true := by rw [beq_cast]; exact decide_eq_true h3
                    by_cases h4 : x = 0
                    · have e := mkHid (ent_ok (i := i) (j := j) (x := x) (by rw [HC.out]; exact h1) h2 (.inr h4))
                      have hb4 : (x != 0) = false := by simp [h4]
                      clear h3 h4 h1 h2
                      go_wp2_with (first | (go_at_call 150; refine (HCA.out _).mono ?_; rintro e w' ⟨rfl, rfl⟩) | (go_at_call 95; refine (between_any _ _ _ _).mono ?_; rintro e w' ⟨rfl, rfl⟩))
                      go_roundg g2
                      case measure => omega
                      case rel => exact ⟨j + 1, by omega, by go_num, HSK.out e.out, ⟨p0, p1⟩, HB.out⟩
                    · have e := mkHid (ent_same h3 h4)
                      have hb4 : (x != 0) = true := by simp [h4]
                      clear h3 h4 h1 h2
                      go_wp2_with (first | (go_at_call 150; refine (HCA.out _).mono ?_; rintro e w' ⟨rfl, rfl⟩) | (go_at_call 95; refine (between_any _ _ _ _).mono ?_; rintro e w' ⟨rfl, rfl⟩))
                      go_ret
                      exact ⟨ret_bool (HUK.out e.out).symm, HB.out⟩
                  · have hb3 : ((i : Int) == (j : Int)) = false := by rw [beq_cast]; exact decide_eq_false h3
                    have e := mkHid (ent_ok (x := x) (by rw [HC.out]; exact h1) h2 (.inl h3))
                    clear h3 h1 h2
                    go_wp2_with (first | (go_at_call 150; refine (HCA.out _).mono ?_; rintro e w' ⟨rfl, rfl⟩) | (go_at_call 95; refine (between_any _ _ _ _).mono ?_; rintro e w' ⟨rfl, rfl⟩))
                    go_roundg g2
                    case measure => omega
                    case rel => exact ⟨j + 1, by omega, by go_num, HSK.out e.out, ⟨p0, p1⟩, HB.out⟩
    · have e := mkHid (ok_len hll)
      have hne : (((l.length : Nat) : Int) != ((n * n : Nat) : Int)) = true := by simp; omega
      obtain ⟨q, hqe⟩ : ∃ q, n * n = q := ⟨_, rfl⟩
      rw [hqe] at hsq hne
      clear hll hqe hqq hq1
      go_enter Tryz.func125, Tryz.ntmps125
      go_wp2_with (first | (go_at_call 95; refine (between_any _ _ _ _).mono ?_; rintro e w' ⟨rfl, rfl⟩))
      go_ret
      exact ⟨ret_bool e.out.symm, (Below.refl _ _).alloc (Nat.le_refl _) _⟩
  · have hbt : btw z 1 13 = false := decide_eq_false hz
    have e := mkHid (ok_size (l := l) hz)
    clear hz
    go_enter Tryz.func125, Tryz.ntmps125
    go_wp2_with (first | (go_at_call 95; refine (between_any _ _ _ _).mono ?_; rintro e w' ⟨rfl, rfl⟩))
    go_ret
    exact ⟨ret_bool e.out.symm, (Below.refl _ _).alloc (Nat.le_refl _) _⟩
end Go.Proofs.YtihpajiololfoaaGreat.Q
namespace Go.Proofs.YtihpajiololfoaaGreat.Q
open Go.RowKit

/-- The rows of a grid, the first u of them filled. -/
def gridP (n u : Nat) (f : Tab) : List Int := (List.range 169).map fun p => if p / 13 < u ∧ p % 13 < n then f (p / 13) (p % 13) else 0
theorem gridP_len (n u : Nat) (f : Tab) : (gridP n u f).length = 169 := by simp [gridP]
theorem gridP_get' {n u : Nat} {f : Tab} {p : Nat} (hp : p < 169) : (gridP n u f)[p]? = some (if p / 13 < u ∧ p % 13 < n then f (p / 13) (p % 13) else 0) := by simp [gridP, hp]
theorem gridP_none (n : Nat) (f : Tab) : gridP n 0 f = zs := by
  apply List.ext_getElem?
  intro p
  by_cases hp : p < 169
  · rw [gridP_get' hp, zs, List.getElem?_replicate, if_pos hp]
    simp
  · rw [List.getElem?_eq_none (by rw [gridP_len]; omega), List.getElem?_eq_none (by rw [zs_len]; omega)]
theorem gridP_get {n u : Nat} {f : Tab} {p : Nat} (hp : p < 169) : (gridP n u f)[p]? = some (if p / 13 < u ∧ p % 13 < n then f (p / 13) (p % 13) else 0) := by simp [gridP, hp]
def rowL (n i : Nat) (f : Tab) : List Int := (List.range n).map fun j => f i j
theorem rowL_len (n i : Nat) (f : Tab) : (rowL n i f).length = n := by simp [rowL]
theorem rowL_get {n i : Nat} {f : Tab} {j : Nat} (h : j < n) : (rowL n i f)[j]? = some (f i j) := by simp [rowL, h]
theorem Dif.row {w : World} {b n i : Nat} {z : Int} {f : Tab} (hi : i < 13) (hn : n ≤ 13) (h : Dif w b z (gridP n i f)) : Dif (w.setCells b (1 + i * 13) (ints (rowL n i f))) b z (gridP n (i + 1) f) := by
  have hlen : (ints (rowL n i f)).length = n := by rw [ints_len, rowL_len]
  refine ⟨gridP_len _ _ _, fun j v hv => ?_, World.there_setCells h.there _ _ _⟩
  rw [Nat.zero_add]
  cases j with
  | zero =>
    rw [World.cell?_setCells_out b _ _ w ⟨b, 0, none⟩ (fun _ _ => .inl (by show 0 < 1 + i * 13; omega))]
    have := h.range 0 (.int .i64 z) rfl
    simp [dL] at hv
    subst hv
    simpa using this
  | succ p =>
    have hv' : ((gridP n (i + 1) f)[p]?).map (Value.int .i64) = some v := by simpa [dL, ints_get] using hv
    have hp : p < 169 := by
      rcases Nat.lt_or_ge p 169 with h1 | h1
      · exact h1
      · rw [List.getElem?_eq_none (by rw [gridP_len]; omega)] at hv'; cases hv'
    rw [gridP_get hp] at hv'
    simp only [Option.map_some, Option.some.injEq] at hv'
    by_cases hin : i * 13 ≤ p ∧ p < i * 13 + n
    · have e1 : p / 13 = i := by omega
      have e2 : p % 13 = p - i * 13 := by omega
      have h2 := World.cell?_setCells_in b (ints (rowL n i f)) (1 + i * 13) w (fun j hj => by
        rw [hlen] at hj
        have := (h.there (1 + i * 13 + j) (by omega)).1
        simpa using this) (p - i * 13) (by rw [hlen]; omega)
      rw [show 1 + i * 13 + (p - i * 13) = p + 1 by omega] at h2
      rw [h2, ← hv', if_pos ⟨by omega, by omega⟩, e1, e2]
      congr 1
      have h3 : (ints (rowL n i f))[p - i * 13]? = some (.int .i64 (f i (p - i * 13))) := by rw [ints_get, rowL_get (by omega)]; rfl
      rw [List.getElem?_eq_getElem (by rw [hlen]; omega)] at h3
      exact Option.some.inj h3
    · rw [World.cell?_setCells_out b _ _ w ⟨b, p + 1, none⟩ (fun _ _ => by
        rw [hlen]
        show p + 1 < 1 + i * 13 ∨ 1 + i * 13 + n ≤ p + 1
        omega)]
      have := h.get (p := p) (gridP_get hp)
      rw [show 1 + p = p + 1 by omega] at this
      rw [this, ← hv']
      congr 2
      by_cases h4 : p / 13 < i ∧ p % 13 < n
      · rw [if_pos h4, if_pos ⟨by omega, h4.2⟩]
      · rw [if_neg h4, if_neg (fun e => by omega)]
theorem step_copy64 {ops : Array Oper} {o : Oper} {a : Act} {w : World} {K : Act → World → Prop} {Q : Exit → Act → World → Prop} {E : Prop} (hgd : o.guard = none) (d s : Operand)
    (ho : o.op = .call { callee := .builtin .copy, args := #[d, s], argTypes := #[27, 27] }) {b n i : Nat} {z : Int} {f : Tab} (hi : i < 13) (hn : n ≤ 13) (hD : Dif w b z (gridP n i f))
    (hd : a.eval d = .slice (some ⟨b, 1 + i * 13, none⟩) 13 13) (ad : Addr) (c : Nat) (hs : a.eval s = .slice (some ad) n c) (hsrc : ∀ j, j < n → w.cell? (ad.add j) = some (.int .i64 (f i j)))
    (h : ∀ w', Dif w' b z (gridP n (i + 1) f) → w.grownBy w' (some b) → K (a.put o.dst (goInt n)) w') :
    if Region.wanted o (yielded ops a.tmps) = true then Oper.wp Tryz.prog o a w K Q else E := by
  have hw : Region.wanted o (yielded ops a.tmps) = true := by simp [Region.wanted, hgd]
  rw [if_pos hw]
  have hlen : (ints (rowL n i f)).length = n := by rw [ints_len, rowL_len]
  have hrun := run_copy_cells (P := Tryz.prog) w 27 27 o.type 3 b (1 + i * 13) 13 13 ad n c (ints (rowL n i f)) Tryz.underlying27 (by kernel_rfl) (by rw [hlen]; exact (Nat.min_eq_left hn).symm)
    (fun j v hv => by
      have hj : j < n := by have := (List.getElem?_eq_some_iff.1 hv).1; omega
      rw [ints_get, rowL_get hj] at hv
      rw [hsrc j hj]; exact hv)
    (fun j hj => by have := (hD.there (1 + i * 13 + j) (by omega)).1; simpa using this) (fun j hj => by have := (hD.there (1 + i * 13 + j) (by omega)).2; simpa using this)
    (fun v hv => by simp only [ints, List.mem_map] at hv; obtain ⟨x, _, rfl⟩ := hv; rfl)
  rw [hlen] at hrun
  unfold Oper.wp
  simp [execOp, ho, resolve, invoke, builtin, hd, hs, hrun, Result.andThen]
  exact h _ (hD.row hi hn) (grown_setCells b _ _ w)
set_option maxRecDepth 100000 in
set_option maxHeartbeats 1600000 in
theorem diffsOf_yes (n : Nat) (l : List Int) (a : Option Addr) (c : Nat) (w : World) (hok : okF n l = true) (hc : l.length ≤ c) (hl : IntsAt w a l) : Calls Tryz.prog 86 #[.agg #[.int .i64 n, .slice a l.length c]] w fun e w' => e = .returned (.agg (dA n (grid n (tab n l)))) ∧ Below w.heap.size w w' := by
  obtain ⟨n', e0, hn1, hn2, hll, -, -⟩ := ok_of hok
  obtain rfl : n = n' := by omega
  have HOK := mkHid hok
  have HL := mkHid hl
  have HLL := mkHid hll
  have B0 := mkHid (((Below.refl w.heap.size w).alloc (Nat.le_refl _) (.cells #[.int .i64 n, .slice a l.length c] 38)).alloc (by simp) (.cells Tryz.zeroCells80 80))
  have T0 := mkHid ((Fc.new w n a l.length c 38).alloc (.cells Tryz.zeroCells80 80))
  have R0 := mkHid (Dif.newz (w.alloc (.cells #[.int .i64 n, .slice a l.length c] 38)))
  clear hok hl hll e0
  go_enter Tryz.func86, Tryz.ntmps86
  go_wp2_with fail
  refine (iOk_any n l a c _ (HL.out.below B0.out)).mono ?_
  rintro e w1 ⟨rfl, hb1⟩
  rw [HOK.out]
  have B1 := mkHid (below_step B0.out hb1)
  have T1 := mkHid (T0.out.below hb1)
  have R1 : Hid (Dif w1 (w.heap.size + 1) 0 zs) := mkHid (by have := R0.out.below hb1; simpa using this)
  obtain ⟨p0, p1⟩ := T1.out
  clear hb1 B0 T0 R0
  have N1 := mkHid (Dif.newz w1)
  have s1 : w.heap.size + 1 < w1.heap.size := R1.out.lt
  have s0 := T1.out.lt
  go_wp2_with (first | (refine wp_build64 rfl rfl rfl ?_) | (refine wp_store64 N1.out zs_len rfl rfl rfl rfl ?_; intro w2 hD2 hg2; obtain ⟨q0, q1⟩ := (T1.out.alloc _).grown hg2 (some_ne (by omega))))
  have B2 := mkHid ((B1.out.alloc B1.out.size (.cells Tryz.zeroCells80 80)).grown hg2 (by have := B1.out.size; simp; omega) (fun q hq => by cases hq; exact B1.out.size))
  have R2 := mkHid ((R1.out.alloc _).grown hg2 (some_ne (by omega)))
  have T2 : Hid (Fc w2 w.heap.size n a l.length c) := mkHid ⟨q0, q1⟩
  have HD2 := mkHid hD2
  obtain ⟨G, hG⟩ : ∃ g, w1.heap.size = g := ⟨_, rfl⟩
  rw [hG] at HD2
  rw [hG]
  have hG1 : w.heap.size + 1 < G := by omega
  have HZ : Hid (gridP n 0 (tab n l) = zs) := mkHid (gridP_none _ _)
  have HT : Hid (∀ i j, i < n → j < n → ∀ v, Below w.heap.size w v → ∃ b o, a = some ⟨b, o, none⟩ ∧ v.cell? ⟨b, o + (i * n + j), none⟩ = some (.int .i64 (tab n l i j))) := mkHid fun i j hi hj v hv => IntsAt.get' (HL.out.below hv) (by rw [HLL.out]; exact idx_lt hi hj)
  have HAT : Hid (∃ b o, a = some ⟨b, o, none⟩) := mkHid (by obtain ⟨b, o, e, _⟩ := HT.out 0 0 (by omega) (by omega) w (Below.refl _ _); exact ⟨b, o, e⟩)
  have hlq : l.length ≤ 169 := by rw [HLL.out]; exact sq_le hn2
  have HSQ : Hid (∀ i, i < n → i * n + n ≤ l.length) := mkHid fun i hi => by rw [HLL.out, show i * n + n = (i + 1) * n by rw [Nat.add_mul]; omega]; exact Nat.mul_le_mul_right n hi
  clear p0 p1 hD2 hg2 N1 R1 B1 q0 q1 T1 s0 hG s1
  go_loopg [14] n (fun g s wr => ∃ (i : Nat), i + g = n ∧ s = .int .i64 i ∧ Dif wr G n (gridP n i (tab n l)) ∧ Dif wr (w.heap.size + 1) 0 zs ∧ Fc wr w.heap.size n a l.length c ∧ Below w.heap.size w wr)
  case atStart => exact ⟨0, by omega, rfl, by rw [HZ.out]; exact HD2.out, R2.out, T2.out, B2.out⟩
  case round =>
    obtain ⟨i, hig, rfl, hD, hR, hT, hB⟩ := hrel
    have HD := mkHid hD
    have HR := mkHid hR
    have HTT := mkHid hT
    have HB := mkHid hB
    clear hD hR hB HD2 R2 T2 B2
    cases gk with
    | zero =>
      have hlt : ¬ ((i : Int) < (n : Int)) := by omega
      have e : i = n := by omega
      subst e
      clear hT
      go_wp2_with (first | (refine wp_load64 HD.out rfl rfl rfl ?_) | (refine wp_store64 HR.out HD.out.len rfl rfl rfl rfl ?_; intro w3 hD3 hg3))
      exact ret64 rfl hD3 rfl rfl ⟨rfl, HB.out.grown hg3 HB.out.size (fun q hq => by cases hq; omega)⟩
    | succ g =>
      have hlt : (i : Int) < (n : Int) := by omega
      obtain ⟨b, o, rfl⟩ := HAT.out
      obtain ⟨p0, p1⟩ := hT
      obtain ⟨m, hm⟩ : ∃ m, i * n = m := ⟨_, rfl⟩
      have hmq : m + n ≤ l.length := by rw [← hm]; exact HSQ.out i (by omega)
      have hwm : IntKind.i64.wrap ((i : Int) * (n : Int)) = (m : Int) := by rw [show (i : Int) * (n : Int) = ((i * n : Nat) : Int) by simp, hm]; exact IntWalk.i64_in _ (by omega)
      obtain ⟨mm, hmm⟩ : ∃ mm, m + n = mm := ⟨_, rfl⟩
      obtain ⟨k1, hk1⟩ : ∃ k1 : Int, (i : Int) + 1 = k1 := ⟨_, rfl⟩
      have hw1 : IntKind.i64.wrap ((i : Int) + 1) = k1 := by rw [hk1]; exact IntWalk.i64_in _ (by omega)
      have hwm2 : IntKind.i64.wrap (k1 * (n : Int)) = (mm : Int) := by rw [← hk1, show ((i : Int) + 1) * (n : Int) = (m : Int) + (n : Int) by rw [Int.add_mul, ← hm]; simp]; rw [IntWalk.i64_in _ (by omega)]; omega
      have hmc : (mm : Int) ≤ (c : Int) := by omega
      have hmm0 : (0 : Int) ≤ (mm : Int) := by omega
      have hmmm : m ≤ mm := by omega
      have hcm : ¬ c = m := by omega
      have hsub : mm - m = n := by omega
      have HK1 := mkHid hk1
      clear hk1 hmm
      have HSRC : Hid (∀ v, Below w.heap.size w v → ∀ j, j < n → v.cell? ((⟨b, o + m, none⟩ : Addr).add j) = some (.int .i64 (tab n l i j))) := mkHid fun v hv j hj => by
        obtain ⟨b', o', e, hc'⟩ := HT.out i j (by omega) hj v hv
        cases e
        rw [hm] at hc'
        rw [Addr.add_mid, Nat.add_assoc]
        exact hc'
      have a0 : (0 : Int) ≤ (i : Int) := by omega
      have a1 : (i : Int) < 13 := by omega
      clear hm
      go_wp2_with fail
      go_region_law (first | (refine step_copy64 rfl (.tmp 20) (.tmp 32) rfl (i := i) (by omega) hn2 (HD.out.drew) rfl _ _ rfl (HSRC.out _ HB.out.drew) ?_; intro w3 hD3 hg3) | (refine step_copy64 rfl (.tmp 20) (.tmp 32) rfl (i := i) (by omega) hn2 HD.out rfl _ _ rfl (HSRC.out _ HB.out) ?_; intro w3 hD3 hg3))
      all_goals
        have HD3 := mkHid hD3
        have HR3 := mkHid (HR.out.drew.grown hg3 (some_ne (by omega)))
        have HT3 := mkHid ((HTT.out.below (Below.refl _ _).drew).grown hg3 (some_ne (by omega)))
        have HB3 := mkHid (HB.out.drew.grown hg3 HB.out.size (fun q hq => by cases hq; omega))
        clear hD3 hg3 p0 p1
        go_wp2
        go_roundg g
        case measure => omega
        case rel => exact ⟨i + 1, by omega, by rw [← HK1.out]; rfl, HD3.out, HR3.out, HT3.out, HB3.out⟩
set_option maxRecDepth 100000 in
set_option maxHeartbeats 800000 in
theorem diffsOf_no (z : Int) (l : List Int) (a : Option Addr) (c : Nat) (w : World) (hok : okF z l = false) (hl : IntsAt w a l) : Calls Tryz.prog 86 #[.agg #[.int .i64 z, .slice a l.length c]] w fun e w' => e = .returned (.agg (dA 0 zs)) ∧ Below w.heap.size w w' := by
  have hz := zc64
  have HOK := mkHid hok
  have HL := mkHid hl
  have B0 := mkHid (((Below.refl w.heap.size w).alloc (Nat.le_refl _) (.cells #[.int .i64 z, .slice a l.length c] 38)).alloc (by simp) (.cells (dA 0 zs) 80))
  have R0 := mkHid (Dif.new (w.alloc (.cells #[.int .i64 z, .slice a l.length c] 38)) (n := 0) zs_len 80)
  clear hok hl
  go_enter Tryz.func86, Tryz.ntmps86
  go_wp2_with fail
  refine (iOk_any z l a c _ (HL.out.below B0.out)).mono ?_
  rintro e w1 ⟨rfl, hb1⟩
  rw [HOK.out]
  have B1 := mkHid (below_step B0.out hb1)
  have R1 : Hid (Dif w1 (w.heap.size + 1) 0 zs) := mkHid (by have := R0.out.below hb1; simpa using this)
  clear hb1 B0 R0
  go_wp2_with (first | (refine wp_store64 R1.out zs_len rfl rfl rfl rfl ?_; intro w2 hD2 hg2))
  exact ret64 rfl hD2 rfl rfl ⟨rfl, B1.out.grown hg2 B1.out.size (fun q hq => by cases hq; omega)⟩
end Go.Proofs.YtihpajiololfoaaGreat.Q
namespace Go.Proofs.YtihpajiololfoaaGreat.Q
open Go.RowKit

end Go.Proofs.YtihpajiololfoaaGreat.Q
