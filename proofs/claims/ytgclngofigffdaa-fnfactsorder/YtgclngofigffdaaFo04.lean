/-
  CONTRACT of the program's diffsOf.
  CONTRACT of the program's facts: a table given out.
-/
import Derived.Test.YtgclngofigffdaaFo02
import Derived.Test.YtgclngofigffdaaFo03
import Derived.Deep.RegionLaw
import Derived.Laws.CopyOwn
import Derived.Laws.IdiomCopy
import Derived.OwnWalk
namespace Go.Proofs.Ytgclngofigffdaa
open Go.RowKit

/-- The rows of a grid, the first u of them filled. -/
def gridP (n u : Nat) (f : Tab) : List Int := (List.range 169).map fun p => if p / 13 < u ∧ p % 13 < n then f (p / 13) (p % 13) else 0
theorem gridP_len (n u : Nat) (f : Tab) : (gridP n u f).length = 169 := by simp [gridP]
theorem gridP_get' {n u : Nat} {f : Tab} {p : Nat} (hp : p < 169) : (gridP n u f)[p]? = some (if p / 13 < u ∧ p % 13 < n then f (p / 13) (p % 13) else 0) := by simp [gridP, hp]
theorem gridP_none (n : Nat) (f : Tab) : gridP n 0 f = zs := by
  apply List.ext_getElem?
  intro p
  by_cases hp : p < 169
  · rw [gridP_get' hp, zs, List.getElem?_replicate, if_pos hp]
    simp
  · rw [List.getElem?_eq_none (by rw [gridP_len]; omega), List.getElem?_eq_none (by rw [zs_len]; omega)]
theorem gridP_get {n u : Nat} {f : Tab} {p : Nat} (hp : p < 169) : (gridP n u f)[p]? = some (if p / 13 < u ∧ p % 13 < n then f (p / 13) (p % 13) else 0) := by simp [gridP, hp]
def rowL (n i : Nat) (f : Tab) : List Int := (List.range n).map fun j => f i j
theorem rowL_len (n i : Nat) (f : Tab) : (rowL n i f).length = n := by simp [rowL]
theorem rowL_get {n i : Nat} {f : Tab} {j : Nat} (h : j < n) : (rowL n i f)[j]? = some (f i j) := by simp [rowL, h]
theorem Dif.row {w : World} {b n i : Nat} {z : Int} {f : Tab} (hi : i < 13) (hn : n ≤ 13) (h : Dif w b z (gridP n i f)) : Dif (w.setCells b (1 + i * 13) (ints (rowL n i f))) b z (gridP n (i + 1) f) := by
  have hlen : (ints (rowL n i f)).length = n := by rw [ints_len, rowL_len]
  refine ⟨gridP_len _ _ _, fun j v hv => ?_, World.there_setCells h.there _ _ _⟩
  rw [Nat.zero_add]
  cases j with
  | zero =>
    rw [World.cell?_setCells_out b _ _ w ⟨b, 0, none⟩ (fun _ _ => .inl (by show 0 < 1 + i * 13; omega))]
    have := h.range 0 (.int .i64 z) rfl
    simp [dL] at hv
    subst hv
    simpa using this
  | succ p =>
    have hv' : ((gridP n (i + 1) f)[p]?).map (Value.int .i64) = some v := by simpa [dL, ints_get] using hv
    have hp : p < 169 := by
      rcases Nat.lt_or_ge p 169 with h1 | h1
      · exact h1
      · rw [List.getElem?_eq_none (by rw [gridP_len]; omega)] at hv'; cases hv'
    rw [gridP_get hp] at hv'
    simp only [Option.map_some, Option.some.injEq] at hv'
    by_cases hin : i * 13 ≤ p ∧ p < i * 13 + n
    · have e1 : p / 13 = i := by omega
      have e2 : p % 13 = p - i * 13 := by omega
      have h2 := World.cell?_setCells_in b (ints (rowL n i f)) (1 + i * 13) w (fun j hj => by
        rw [hlen] at hj
        have := (h.there (1 + i * 13 + j) (by omega)).1
        simpa using this) (p - i * 13) (by rw [hlen]; omega)
      rw [show 1 + i * 13 + (p - i * 13) = p + 1 by omega] at h2
      rw [h2, ← hv', if_pos ⟨by omega, by omega⟩, e1, e2]
      congr 1
      have h3 : (ints (rowL n i f))[p - i * 13]? = some (.int .i64 (f i (p - i * 13))) := by rw [ints_get, rowL_get (by omega)]; rfl
      rw [List.getElem?_eq_getElem (by rw [hlen]; omega)] at h3
      exact Option.some.inj h3
    · rw [World.cell?_setCells_out b _ _ w ⟨b, p + 1, none⟩ (fun _ _ => by
        rw [hlen]
        show p + 1 < 1 + i * 13 ∨ 1 + i * 13 + n ≤ p + 1
        omega)]
      have := h.get (p := p) (gridP_get hp)
      rw [show 1 + p = p + 1 by omega] at this
      rw [this, ← hv']
      congr 2
      by_cases h4 : p / 13 < i ∧ p % 13 < n
      · rw [if_pos h4, if_pos ⟨by omega, h4.2⟩]
      · rw [if_neg h4, if_neg (fun e => by omega)]
theorem step_copy64 {ops : Array Oper} {o : Oper} {a : Act} {w : World} {K : Act → World → Prop} {Q : Exit → Act → World → Prop} {E : Prop} (hgd : o.guard = none) (d s : Operand)
    (ho : o.op = .call { callee := .builtin .copy, args := #[d, s], argTypes := #[24, 24] }) {b n i : Nat} {z : Int} {f : Tab} (hi : i < 13) (hn : n ≤ 13) (hD : Dif w b z (gridP n i f))
    (hd : a.eval d = .slice (some ⟨b, 1 + i * 13, none⟩) 13 13) (ad : Addr) (c : Nat) (hs : a.eval s = .slice (some ad) n c) (hsrc : ∀ j, j < n → w.cell? (ad.add j) = some (.int .i64 (f i j)))
    (h : ∀ w', Dif w' b z (gridP n (i + 1) f) → w.grownBy w' (some b) → K (a.put o.dst (goInt n)) w') :
    if Region.wanted o (yielded ops a.tmps) = true then Oper.wp Try.prog o a w K Q else E := by
  have hw : Region.wanted o (yielded ops a.tmps) = true := by simp [Region.wanted, hgd]
  rw [if_pos hw]
  have hlen : (ints (rowL n i f)).length = n := by rw [ints_len, rowL_len]
  have hrun := run_copy_cells (P := Try.prog) w 24 24 o.type 3 b (1 + i * 13) 13 13 ad n c (ints (rowL n i f)) Try.underlying24 (by kernel_rfl) (by rw [hlen]; exact (Nat.min_eq_left hn).symm)
    (fun j v hv => by
      have hj : j < n := by have := (List.getElem?_eq_some_iff.1 hv).1; omega
      rw [ints_get, rowL_get hj] at hv
      rw [hsrc j hj]; exact hv)
    (fun j hj => by have := (hD.there (1 + i * 13 + j) (by omega)).1; simpa using this) (fun j hj => by have := (hD.there (1 + i * 13 + j) (by omega)).2; simpa using this)
    (fun v hv => by simp only [ints, List.mem_map] at hv; obtain ⟨x, _, rfl⟩ := hv; rfl)
  rw [hlen] at hrun
  unfold Oper.wp
  simp [execOp, ho, resolve, invoke, builtin, hd, hs, hrun, Result.andThen]
  exact h _ (hD.row hi hn) (grown_setCells b _ _ w)
set_option maxRecDepth 100000 in
set_option maxHeartbeats 1600000 in
theorem diffsOf_yes (n : Nat) (l : List Int) (a : Option Addr) (c : Nat) (w : World) (hok : okF n l = true) (hc : l.length ≤ c) (hl : IntsAt w a l) : Calls Try.prog 39 #[.agg #[.int .i64 n, .slice a l.length c]] w fun e w' => e = .returned (.agg (dA n (grid n (tab n l)))) ∧ Below w.heap.size w w' := by
  obtain ⟨n', e0, hn1, hn2, hll, -, -⟩ := ok_of hok
  obtain rfl : n = n' := by omega
  have HOK := mkHid hok
  have HL := mkHid hl
  have HLL := mkHid hll
  have B0 := mkHid (((Below.refl w.heap.size w).alloc (Nat.le_refl _) (.cells #[.int .i64 n, .slice a l.length c] 26)).alloc (by simp) (.cells Try.zeroCells59 59))
  have T0 := mkHid ((Fc.new w n a l.length c 26).alloc (.cells Try.zeroCells59 59))
  have R0 := mkHid (Dif.newz (w.alloc (.cells #[.int .i64 n, .slice a l.length c] 26)))
  clear hok hl hll e0
  go_enter Try.func39, Try.ntmps39
  go_wp2_with fail
  refine (iOk_any n l a c _ (HL.out.below B0.out)).mono ?_
  rintro e w1 ⟨rfl, hb1⟩
  rw [HOK.out]
  have B1 := mkHid (below_step B0.out hb1)
  have T1 := mkHid (T0.out.below hb1)
  have R1 : Hid (Dif w1 (w.heap.size + 1) 0 zs) := mkHid (by have := R0.out.below hb1; simpa using this)
  obtain ⟨p0, p1⟩ := T1.out
  clear hb1 B0 T0 R0
  have N1 := mkHid (Dif.newz w1)
  have s1 : w.heap.size + 1 < w1.heap.size := R1.out.lt
  have s0 := T1.out.lt
  go_wp2_with (first | (refine wp_build64 rfl rfl rfl ?_) | (refine wp_store64 N1.out zs_len rfl rfl rfl rfl ?_; intro w2 hD2 hg2; obtain ⟨q0, q1⟩ := (T1.out.alloc _).grown hg2 (some_ne (by omega))))
  have B2 := mkHid ((B1.out.alloc B1.out.size (.cells Try.zeroCells59 59)).grown hg2 (by have := B1.out.size; simp; omega) (fun q hq => by cases hq; exact B1.out.size))
  have R2 := mkHid ((R1.out.alloc _).grown hg2 (some_ne (by omega)))
  have T2 : Hid (Fc w2 w.heap.size n a l.length c) := mkHid ⟨q0, q1⟩
  have HD2 := mkHid hD2
  obtain ⟨G, hG⟩ : ∃ g, w1.heap.size = g := ⟨_, rfl⟩
  rw [hG] at HD2
  rw [hG]
  have hG1 : w.heap.size + 1 < G := by omega
  have HZ : Hid (gridP n 0 (tab n l) = zs) := mkHid (gridP_none _ _)
  have HT : Hid (∀ i j, i < n → j < n → ∀ v, Below w.heap.size w v → ∃ b o, a = some ⟨b, o, none⟩ ∧ v.cell? ⟨b, o + (i * n + j), none⟩ = some (.int .i64 (tab n l i j))) := mkHid fun i j hi hj v hv => IntsAt.get' (HL.out.below hv) (by rw [HLL.out]; exact idx_lt hi hj)
  have HAT : Hid (∃ b o, a = some ⟨b, o, none⟩) := mkHid (by obtain ⟨b, o, e, _⟩ := HT.out 0 0 (by omega) (by omega) w (Below.refl _ _); exact ⟨b, o, e⟩)
  have hlq : l.length ≤ 169 := by rw [HLL.out]; exact sq_le hn2
  have HSQ : Hid (∀ i, i < n → i * n + n ≤ l.length) := mkHid fun i hi => by rw [HLL.out, show i * n + n = (i + 1) * n by rw [Nat.add_mul]; omega]; exact Nat.mul_le_mul_right n hi
  clear p0 p1 hD2 hg2 N1 R1 B1 q0 q1 T1 s0 hG s1
  go_loopg [14] n (fun g s wr => ∃ (i : Nat), i + g = n ∧ s = .int .i64 i ∧ Dif wr G n (gridP n i (tab n l)) ∧ Dif wr (w.heap.size + 1) 0 zs ∧ Fc wr w.heap.size n a l.length c ∧ Below w.heap.size w wr)
  case atStart => exact ⟨0, by omega, rfl, by rw [HZ.out]; exact HD2.out, R2.out, T2.out, B2.out⟩
  case round =>
    obtain ⟨i, hig, rfl, hD, hR, hT, hB⟩ := hrel
    have HD := mkHid hD
    have HR := mkHid hR
    have HTT := mkHid hT
    have HB := mkHid hB
    clear hD hR hB HD2 R2 T2 B2
    cases gk with
    | zero =>
      have hlt : ¬ ((i : Int) < (n : Int)) := by omega
      have e : i = n := by omega
      subst e
      clear hT
      go_wp2_with (first | (refine wp_load64 HD.out rfl rfl rfl ?_) | (refine wp_store64 HR.out HD.out.len rfl rfl rfl rfl ?_; intro w3 hD3 hg3))
      exact ret64 rfl hD3 rfl rfl ⟨rfl, HB.out.grown hg3 HB.out.size (fun q hq => by cases hq; omega)⟩
    | succ g =>
      have hlt : (i : Int) < (n : Int) := by omega
      obtain ⟨b, o, rfl⟩ := HAT.out
      obtain ⟨p0, p1⟩ := hT
      obtain ⟨m, hm⟩ : ∃ m, i * n = m := ⟨_, rfl⟩
      have hmq : m + n ≤ l.length := by rw [← hm]; exact HSQ.out i (by omega)
      have hwm : IntKind.i64.wrap ((i : Int) * (n : Int)) = (m : Int) := by rw [show (i : Int) * (n : Int) = ((i * n : Nat) : Int) by simp, hm]; exact IntWalk.i64_in _ (by omega)
      obtain ⟨mm, hmm⟩ : ∃ mm, m + n = mm := ⟨_, rfl⟩
      obtain ⟨k1, hk1⟩ : ∃ k1 : Int, (i : Int) + 1 = k1 := ⟨_, rfl⟩
      have hw1 : IntKind.i64.wrap ((i : Int) + 1) = k1 := by rw [hk1]; exact IntWalk.i64_in _ (by omega)
      have hwm2 : IntKind.i64.wrap (k1 * (n : Int)) = (mm : Int) := by rw [← hk1, show ((i : Int) + 1) * (n : Int) = (m : Int) + (n : Int) by rw [Int.add_mul, ← hm]; simp]; rw [IntWalk.i64_in _ (by omega)]; omega
      have hmc : (mm : Int) ≤ (c : Int) := by omega
      have hmm0 : (0 : Int) ≤ (mm : Int) := by omega
      have hmmm : m ≤ mm := by omega
      have hcm : ¬ c = m := by omega
      have hsub : mm - m = n := by omega
      have HK1 := mkHid hk1
      clear hk1 hmm
      have HSRC : Hid (∀ v, Below w.heap.size w v → ∀ j, j < n → v.cell? ((⟨b, o + m, none⟩ : Addr).add j) = some (.int .i64 (tab n l i j))) := mkHid fun v hv j hj => by
        obtain ⟨b', o', e, hc'⟩ := HT.out i j (by omega) hj v hv
        cases e
        rw [hm] at hc'
        rw [Addr.add_mid, Nat.add_assoc]
        exact hc'
      have a0 : (0 : Int) ≤ (i : Int) := by omega
      have a1 : (i : Int) < 13 := by omega
      clear hm
      go_wp2_with fail
      go_region_law (first | (refine step_copy64 rfl (.tmp 20) (.tmp 32) rfl (i := i) (by omega) hn2 (HD.out.drew) rfl _ _ rfl (HSRC.out _ HB.out.drew) ?_; intro w3 hD3 hg3) | (refine step_copy64 rfl (.tmp 20) (.tmp 32) rfl (i := i) (by omega) hn2 HD.out rfl _ _ rfl (HSRC.out _ HB.out) ?_; intro w3 hD3 hg3))
      all_goals
        have HD3 := mkHid hD3
        have HR3 := mkHid (HR.out.drew.grown hg3 (some_ne (by omega)))
        have HT3 := mkHid ((HTT.out.below (Below.refl _ _).drew).grown hg3 (some_ne (by omega)))
        have HB3 := mkHid (HB.out.drew.grown hg3 HB.out.size (fun q hq => by cases hq; omega))
        clear hD3 hg3 p0 p1
        go_wp2
        go_roundg g
        case measure => omega
        case rel => exact ⟨i + 1, by omega, by rw [← HK1.out]; rfl, HD3.out, HR3.out, HT3.out, HB3.out⟩
set_option maxRecDepth 100000 in
set_option maxHeartbeats 800000 in
theorem diffsOf_no (z : Int) (l : List Int) (a : Option Addr) (c : Nat) (w : World) (hok : okF z l = false) (hl : IntsAt w a l) : Calls Try.prog 39 #[.agg #[.int .i64 z, .slice a l.length c]] w fun e w' => e = .returned (.agg (dA 0 zs)) ∧ Below w.heap.size w w' := by
  have hz := zc64
  have HOK := mkHid hok
  have HL := mkHid hl
  have B0 := mkHid (((Below.refl w.heap.size w).alloc (Nat.le_refl _) (.cells #[.int .i64 z, .slice a l.length c] 26)).alloc (by simp) (.cells (dA 0 zs) 59))
  have R0 := mkHid (Dif.new (w.alloc (.cells #[.int .i64 z, .slice a l.length c] 26)) (n := 0) zs_len 59)
  clear hok hl
  go_enter Try.func39, Try.ntmps39
  go_wp2_with fail
  refine (iOk_any z l a c _ (HL.out.below B0.out)).mono ?_
  rintro e w1 ⟨rfl, hb1⟩
  rw [HOK.out]
  have B1 := mkHid (below_step B0.out hb1)
  have R1 : Hid (Dif w1 (w.heap.size + 1) 0 zs) := mkHid (by have := R0.out.below hb1; simpa using this)
  clear hb1 B0 R0
  go_wp2_with (first | (refine wp_store64 R1.out zs_len rfl rfl rfl rfl ?_; intro w2 hD2 hg2))
  exact ret64 rfl hD2 rfl rfl ⟨rfl, B1.out.grown hg2 B1.out.size (fun q hq => by cases hq; omega)⟩
end Go.Proofs.Ytgclngofigffdaa
namespace Go.Proofs.Ytgclngofigffdaa
open Go.RowKit

def mkR (n u : Nat) (f : Tab) : List Int := (List.range (u * n)).map fun p => f (p / n) (p % n)
theorem mkR_len (n u : Nat) (f : Tab) : (mkR n u f).length = u * n := by simp [mkR]
theorem mkR_next {n u : Nat} {f : Tab} : mkR n (u + 1) f = mkR n u f ++ rowL n u f := by
  apply List.ext_getElem?
  intro p
  have e : (u + 1) * n = u * n + n := by rw [Nat.add_mul]; omega
  by_cases h1 : p < u * n
  · rw [List.getElem?_append_left (by rw [mkR_len]; exact h1)]
    simp [mkR, h1, show p < (u + 1) * n by omega]
  · rw [List.getElem?_append_right (by rw [mkR_len]; omega), mkR_len]
    by_cases h2 : p < u * n + n
    · rw [rowL_get (by omega)]
      obtain ⟨j, rfl⟩ : ∃ j, p = u * n + j := ⟨p - u * n, by omega⟩
      have hj : j < n := by omega
      simp only [mkR, List.getElem?_map]
      rw [List.getElem?_range (by omega)]
      simp [idx_div hj, idx_mod hj]
    · rw [List.getElem?_eq_none (by rw [mkR_len]; omega), List.getElem?_eq_none (by rw [rowL_len]; omega)]
theorem ints_append (a b : List Int) : ints (a ++ b) = ints a ++ ints b := by simp [ints]
set_option maxRecDepth 100000 in
set_option maxHeartbeats 1600000 in
theorem facts_yes (n : Nat) (hn1 : 1 ≤ n) (hn2 : n ≤ 13) (f : Tab) (w : World) : Calls Try.prog 42 #[.agg (dA n (grid n f))] w fun e w' => Gives w w' e n (mk n f) := by
  obtain ⟨i0, hi, hz⟩ := Option.map_eq_some_iff.1 Try.info3
  simp only [Prod.mk.injEq] at hz
  obtain ⟨hz0, hz1, hz2⟩ := hz
  have HI := mkHid (show Try.prog.info? 3 = some i0 ∧ i0.zero = some (.int .i64 0) ∧ i0.size = 1 ∧ i0.bytes = 8 from ⟨hi, hz0, hz1, hz2⟩)
  have D0 := mkHid ((Dif.new w (n := n) (grid_len n f) 59).alloc (.cells #[.int .i64 0, .slice none 0 0] 26))
  have Z0 := mkHid (Fz.new (w.alloc (.cells (dA n (grid n f)) 59)))
  have B0 := mkHid (((Below.refl w.heap.size w).alloc (Nat.le_refl _) (.cells (dA n (grid n f)) 59)).alloc (by simp) (.cells #[.int .i64 0, .slice none 0 0] 26))
  have HV := mkHid (grid_V hn2 f)
  have hsq := wrap_sq hn2
  have hq1 := sq_le hn2
  obtain ⟨q, hq⟩ : ∃ q, n * n = q := ⟨_, rfl⟩
  rw [hq] at hsq hq1
  have HQ := mkHid hq
  have HMK : Hid (mkR n n f = mk n f) := mkHid rfl
  obtain ⟨G, hG⟩ : ∃ G, grid n f = G := ⟨_, rfl⟩
  rw [hG] at D0 Z0 B0 HV
  rw [hG]
  clear hi hz0 hz1 hz2 hq hG
  go_enter Try.func42, Try.ntmps42
  go_wp2_with (first | (refine wp_load64 D0.out rfl rfl rfl ?_))
  refine (isNone_any n G _).mono ?_
  rintro e w1 ⟨rfl, hb1⟩
  have D1 := mkHid (D0.out.below hb1)
  have Z1 : Hid (Fz w1 (w.heap.size + 1)) := mkHid (by have := Z0.out.below hb1; simpa using this)
  have B1 := mkHid (below_step B0.out hb1)
  have c0 := D1.out.size
  have hn0 : decide ((n : Int) = 0) = false := decide_eq_false (by omega)
  rw [hn0]
  have s1 := Z1.out.lt
  clear hb1 D0 Z0 B0
  go_wp2_with (first | (at_make; refine wpList_make_own _ rfl _ _ 24 rfl (w.heap.size + 2) 3 i0 (.int .i64 0) 1 Try.underlying24 HI.out.1 HI.out.2.1 HI.out.2.2.1 _ _ _ q rfl rfl rfl ?mk1 ?mk2 ?mk3 ?_; rotate_right; intro w2 ho2 hg2; have c2 := (D1.out.grown hg2 (by simp)).size))
  case mk1 => rw [HI.out.2.2.2]; omega
  case mk2 => unfold maxLen; omega
  case mk3 => omega
  have D2 := mkHid (D1.out.grown hg2 (by simp))
  have Z2 := mkHid (Z1.out.grown hg2 (by simp))
  have B2 := mkHid (B1.out.grown hg2 B1.out.size (fun q hq => by cases hq))
  have O2 : Hid (OwnI w2 (w.heap.size + 2) (.slice (some ⟨w1.heap.size, 0, none⟩) 0 q) []) := mkHid ho2
  have HSQ : Hid (∀ i, i < n → i * n + n ≤ q) := mkHid fun i hi => by rw [← HQ.out, show i * n + n = (i + 1) * n by rw [Nat.add_mul]; omega]; exact Nat.mul_le_mul_right n hi
  obtain ⟨g0, hg0⟩ : ∃ g, w1.heap.size = g := ⟨_, rfl⟩
  rw [hg0] at O2
  rw [hg0]
  clear hg2 ho2 D1 Z1 B1 c0 hg0
  go_loopg [3, 16] n (fun g s3 s wr => ∃ (i : Nat) (ao : Option Addr) (cap : Nat), i + g = n ∧ s = .int .i64 i ∧ s3 = .slice ao (mkR n i f).length cap ∧ OwnI wr (w.heap.size + 2) (.slice ao (mkR n i f).length cap) (mkR n i f) ∧ Dif wr w.heap.size n G ∧ Fz wr (w.heap.size + 1) ∧ Below w.heap.size w wr)
  case atStart => exact ⟨0, some ⟨g0, 0, none⟩, q, by omega, rfl, by simp [mkR], by simpa [mkR] using O2.out, D2.out, Z2.out, B2.out⟩
  case round =>
    obtain ⟨i, ao, cap, hig, rfl, rfl, hO, hD, hZ, hB⟩ := hrel
    have HO := mkHid hO
    have HD := mkHid hD
    have HZ := mkHid hZ
    have HB := mkHid hB
    clear hO hB D2 Z2 B2 O2 c2 s1
    have d0 := hD.size
    cases gk with
    | zero =>
      have hlt : ¬ ((i : Int) < (n : Int)) := by omega
      have e : i = n := by omega
      subst e
      rw [HMK.out] at HO
      rw [HMK.out]
      obtain ⟨⟨z0, z1⟩, z2, z3⟩ := hZ
      clear hD
      go_wp2
      refine bodyPost_ret (v := .agg #[.int .i64 i, .slice ao (mk i f).length cap]) (by simp [results, Try.results42, go_sem, z0, z1]) rfl ⟨ao, cap, rfl, ?_, ?_⟩
      · have hlo : ∀ q, Value.ownBlock (.slice ao (mk i f).length cap) = some q → some (w.heap.size + 1) ≠ some q := fun q hq => some_ne (by have := HO.out.lt hq; omega)
        exact (OwnI.grown (OwnI.grown (HO.out.mono (by omega)) (grown_setCell _ ⟨w.heap.size + 1, 0, none⟩ _) hlo) (grown_setCell _ ⟨w.heap.size + 1, 1, none⟩ _) hlo)
      · exact (HB.out.setCell (p := ⟨w.heap.size + 1, 0, none⟩) (Nat.le_succ _) _).setCell (p := ⟨w.heap.size + 1, 1, none⟩) (Nat.le_succ _) _
    | succ g =>
      have hlt : (i : Int) < (n : Int) := by omega
      clear hZ
      have a0 : (0 : Int) ≤ (i : Int) := by omega
      have a1 : (i : Int) < 13 := by omega
      have a2 : (n : Int) ≤ 13 := by omega
      obtain ⟨L, hL⟩ : ∃ L, mkR n i f = L := ⟨_, rfl⟩
      have HL : Hid (L.length = i * n) := mkHid (by rw [← hL, mkR_len])
      have HN : Hid (mkR n (i + 1) f = L ++ rowL n i f) := mkHid (by rw [mkR_next, hL])
      rw [hL] at HO
      rw [hL]
      have hLq : L.length + n ≤ q := by rw [HL.out]; exact HSQ.out i (by omega)
      have HSRC : Hid (∀ v, Dif v w.heap.size n G → ∀ j u, (ints (rowL n i f))[j]? = some u → v.cell? ((⟨w.heap.size, 1 + i * 13, none⟩ : Addr).add j) = some u) := mkHid fun v hv j u hu => by
        have hj : j < n := by have := (List.getElem?_eq_some_iff.1 hu).1; rw [ints_len, rowL_len] at this; exact this
        rw [ints_get, rowL_get hj] at hu
        rw [Addr.add_mid, ← hu]
        exact hv.at (by omega) (by omega) (HV.out i j (by omega) hj)
      clear hD hL
      go_wp2_with fail
      go_region_law (refine step_append_lies _ rfl (.tmp 19) (.tmp 25) 24 rfl (w.heap.size + 2) 3 i0 (.int .i64 0) 1 8 Try.underlying24 HI.out.1 HI.out.2.1 HI.out.2.2.1 HI.out.2.2.2 rfl (by decide) _ _ _ rfl (owns_below HO.out (Below.refl _ _).drew) ⟨w.heap.size, 1 + i * 13, none⟩ n 13 (ints (rowL n i f)) rfl (by rw [ints_len, rowL_len]; omega) (HSRC.out _ HD.out.drew) (fun v hv => by simp only [ints, List.mem_map] at hv; obtain ⟨x, _, rfl⟩ := hv; rfl) (by omega) (by unfold maxLen; omega) (by omega) (by have := HZ.out.lt; simp; omega) _ rfl ?_; intro g' cap' w3 ho3 hg3 hat3 hlt3)
      all_goals
        have hlen : (mkR n (i + 1) f).length = L.length + n := by rw [HN.out, List.length_append, rowL_len]
        have O3 : Hid (OwnI w3 (w.heap.size + 2) (.slice (some ⟨g', 0, none⟩) (mkR n (i + 1) f).length cap') (mkR n (i + 1) f)) := mkHid (by
          unfold OwnI
          rw [hlen, HN.out, ints_append]
          exact ho3)
        have hof : ∀ b, b < w.heap.size + 2 → some b ≠ Value.ownBlock (.slice ao L.length cap) := fun b hb e => by have := HO.out.lt e.symm; omega
        have D3 := mkHid (HD.out.drew.grown hg3 (hof _ (by omega)))
        have Z3 := mkHid ((HZ.out.below (Below.refl _ _).drew).grown hg3 (hof _ (by omega)))
        have B3 := mkHid (HB.out.drew.grown hg3 HB.out.size (fun q hq => by have := HO.out.lt hq; omega))
        have HLEN := mkHid hlen
        clear ho3 hg3 hof hlen hat3 hlt3 d0
        go_wp2
        go_roundg g
        case measure => omega
        case rel => exact ⟨i + 1, some ⟨g', 0, none⟩, cap', by omega, by go_num, by rw [HLEN.out], O3.out, D3.out, Z3.out, B3.out⟩
set_option maxRecDepth 100000 in
set_option maxHeartbeats 800000 in
theorem facts_no (w : World) : Calls Try.prog 42 #[.agg (dA 0 zs)] w fun e w' => Gives w w' e 0 [] := by
  have D0 := mkHid ((Dif.new w (n := 0) zs_len 59).alloc (.cells #[.int .i64 0, .slice none 0 0] 26))
  have Z0 := mkHid (Fz.new (w.alloc (.cells (dA 0 zs) 59)))
  have B0 := mkHid (((Below.refl w.heap.size w).alloc (Nat.le_refl _) (.cells (dA 0 zs) 59)).alloc (by simp) (.cells #[.int .i64 0, .slice none 0 0] 26))
  obtain ⟨G, hG⟩ : ∃ G, zs = G := ⟨_, rfl⟩
  rw [hG] at D0 Z0 B0
  rw [hG]
  clear hG
  go_enter Try.func42, Try.ntmps42
  go_wp2_with (first | (refine wp_load64 D0.out rfl rfl rfl ?_))
  refine (isNone_any 0 G _).mono ?_
  rintro e w1 ⟨rfl, hb1⟩
  have Z1 : Hid (Fz w1 (w.heap.size + 1)) := mkHid (by have := Z0.out.below hb1; simpa using this)
  have B1 := mkHid (below_step B0.out hb1)
  have hn0 : decide ((0 : Int) = 0) = true := rfl
  rw [hn0]
  obtain ⟨⟨z0, z1⟩, z2, z3⟩ := Z1.out
  clear hb1 D0 Z0 B0
  go_wp2
  refine bodyPost_ret (v := .agg #[.int .i64 0, .slice none 0 0]) (by simp [results, Try.results42, go_sem, z0, z1]) rfl ⟨none, 0, rfl, OwnI.nil _ _, ?_⟩
  exact (B1.out.setCell (p := ⟨w.heap.size + 1, 0, none⟩) (Nat.le_succ _) _).setCell (p := ⟨w.heap.size + 1, 1, none⟩) (Nat.le_succ _) _
end Go.Proofs.Ytgclngofigffdaa
