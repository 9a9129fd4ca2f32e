/-
  CONTRACT of the program's SegHas.
  PURE: what the three loops of the spec's SegHas ask, and what the program's row tells.
  CONTRACT of the spec's l07Vals.
-/
import Derived.Test.YtbfmljogfljhdaaGreatRo
import Derived.Test.YtbfmljogfljhdaaGreatNv
namespace Go.Proofs.YtbfmljogfljhdaaGreat
open Go.RowKit

/-- A Seg is so of these cells, with these numbers. -/
structure HasP (n lv : Int) (S : SG) (l : List Int) (cs : List CC) : Prop where
  ok : OkS n lv S.B S.V S.M
  size : (l.length : Int) = n
  vp : VP l
  len : (cs.length : Int) = l.getD lv.toNat 0
  has : HasL l (linksOf S.B S.V S.M) cs
theorem linksOf_mem : ∀ {B : List (List Y)} {V : List VV} {M : List Bool} {k : Lk}, k ∈ linksOf B V M → k.b ∈ B
  | [], _, _, _, h => by cases h
  | [b], _, _, _, h => by simp [linksOf] at h; subst h; simp
  | b :: b' :: B, V, M, k, h => by
    rw [linksOf] at h
    · rcases List.mem_cons.1 h with rfl | h
      · exact List.mem_cons_self
      · exact List.mem_cons_of_mem _ (linksOf_mem h)
    · intro h; cases h
theorem links_good {n lv : Int} {S : SG} {l : List Int} (h : OkS n lv S.B S.V S.M) (hn : (l.length : Int) = n) (hs : Small S) : ∀ k, k ∈ linksOf S.B S.V S.M → GoodL l k := by
  intro k hk
  have hm := linksOf_mem hk
  have hr := h.rows _ hm
  obtain ⟨i, hi, e⟩ := List.getElem_of_mem hm
  exact ⟨hr.ne, hs.row i _ (List.getElem?_eq_some_iff.2 ⟨hi, e⟩), fun q hq => by
    have h1 := hr.sym q hq
    obtain ⟨_, ⟨a1, a2⟩, a3, a4⟩ := h1
    exact ⟨by omega, by omega, by omega, by omega⟩⟩
set_option maxRecDepth 100000 in
set_option maxHeartbeats 3200000 in
theorem iSegHas_any (n lv : Int) (S : SG) (A : SAd) (l : List Int) (a : Option Addr) (c : Nat) (cs : List CC) (ac : Option Addr) (cc : Nat) (w : World) (hs : Small S) (hn : l.length ≤ 1048576) (hcc : cs.length ≤ cc) (hcm : cc ≤ maxLen) (hl : SegAt w A S) (hv : At eI w a l) (hc : At eC w ac cs) :
    Calls Tryz.prog 8 #[.int .i64 n, .int .i64 lv, .agg #[.slice A.a0 S.B.length A.c0, .slice A.a1 S.V.length A.c1, .slice A.a2 S.M.length A.c2], .slice a l.length c, .slice ac cs.length cc] w fun e w' => Tells w w' e (HasP n lv S l cs) := by
  have HSM := mkHid hs
  obtain ⟨w0, hw0⟩ : ∃ x : World, w.alloc (.cells #[.slice A.a0 S.B.length A.c0, .slice A.a1 S.V.length A.c1, .slice A.a2 S.M.length A.c2] 28) = x := ⟨_, rfl⟩
  obtain ⟨X, hX⟩ : ∃ x, w.heap.size = x := ⟨_, rfl⟩
  have HB : Hid (Below w.heap.size w w0) := mkHid (by rw [← hw0]; exact bl_alloc (Below.refl _ _) _)
  have P0 : Hid (G3 w0 X (.slice A.a0 S.B.length A.c0) (.slice A.a1 S.V.length A.c1) (.slice A.a2 S.M.length A.c2)) := mkHid (by rw [← hw0, ← hX]; exact G3.new _ _ _ _ _)
  have HL := mkHid (hl.below HB.out)
  have HV := mkHid (hv.below HB.out)
  have HC := mkHid (hc.below HB.out)
  have HN := mkHid hn
  have HCC := mkHid hcc
  have HCM := mkHid hcm
  clear hl hv hc hs hn hcc hcm
  obtain ⟨q0, q1, q2, _, _, _⟩ := P0.out
  go_enter Tryz.func8, Tryz.ntmps8
  go_wp2_with fail
  clear hw0 hX q0 q1 q2
  refine (iSegOk_any n lv S A _ HSM.out HL.out).mono ?_
  rintro e w1 ⟨hb, r, rfl, hr⟩
  have HR := mkHid hr
  have HB1 := mkHid (below_step HB.out hb)
  have P1 := mkHid (P0.out.below hb)
  have L1 := mkHid (HL.out.below hb)
  have V1 := mkHid (HV.out.below hb)
  have C1 := mkHid (HC.out.below hb)
  clear hb hr P0 HL HB HV HC
  cases hrb : r
  · have HNO : Hid (¬ HasP n lv S l cs) := mkHid fun h => by have := HR.out.2 h.ok; rw [hrb] at this; cases this
    subst hrb
    go_wp2
    go_ret
    exact Tells.no HB1.out HNO.out
  have HOK := mkHid (HR.out.1 hrb)
  subst hrb
  clear HR
  by_cases hsz : (l.length : Int) ≠ n
  · have hs2 : ((l.length : Int) != n) = true := by simp; exact hsz
    have HNO : Hid (¬ HasP n lv S l cs) := mkHid fun h => hsz h.size
    clear hsz
    go_wp2
    go_ret
    exact Tells.no HB1.out HNO.out
  replace hsz := Decidable.not_not.1 hsz
  have hs2 : ((l.length : Int) != n) = false := by simp; exact hsz
  have HSZ := mkHid hsz
  clear hsz
  go_wp2_with fail
  refine (areSymVals_any l a c _ HN.out V1.out).mono ?_
  rintro e w2 ⟨hb, r, rfl, hr⟩
  have HR := mkHid hr
  have HB2 := mkHid (below_step HB1.out hb)
  have P2 := mkHid (P1.out.below hb)
  have L2 := mkHid (L1.out.below hb)
  have V2 := mkHid (V1.out.below hb)
  have C2 := mkHid (C1.out.below hb)
  clear hb hr P1 L1 HB1 V1 C1
  cases hrb : r
  · have HNO : Hid (¬ HasP n lv S l cs) := mkHid fun h => by have := HR.out.2 h.vp; rw [hrb] at this; cases this
    subst hrb
    go_wp2
    go_ret
    exact Tells.no HB2.out HNO.out
  have HVP := mkHid (HR.out.1 hrb)
  subst hrb
  clear HR
  obtain ⟨j, hj⟩ : ∃ j : Nat, lv = (j : Int) := ⟨lv.toNat, by have := HOK.out.len; unfold lenP at this; omega⟩
  have hjl : j < l.length := by have h1 := HOK.out.len; have h2 := HSZ.out; unfold lenP at h1; omega
  obtain ⟨x, hx⟩ : ∃ x, l[j]? = some x := ⟨_, List.getElem?_eq_getElem hjl⟩
  have HX : Hid (l.getD lv.toNat 0 = x) := mkHid (by rw [hj]; simp [hx])
  obtain ⟨b, off, ha, _, hq⟩ := V2.out.cons (by omega)
  have c0 := get_i hq hx
  have HA := mkHid ha
  subst ha
  have i0 : (0 : Int) ≤ lv := by omega
  have i1 : lv < (l.length : Int) := by omega
  have HJ := mkHid hj
  have HJL := mkHid hjl
  subst hj
  clear hq hx hjl
  by_cases hcl : (cs.length : Int) ≠ x
  · have hc2 : ((cs.length : Int) != x) = true := by simp; exact hcl
    have HNO : Hid (¬ HasP n (j : Int) S l cs) := mkHid fun h => hcl (h.len.trans HX.out)
    clear hcl
    go_wp2
    go_ret
    exact Tells.no HB2.out HNO.out
  replace hcl := Decidable.not_not.1 hcl
  have hc2 : ((cs.length : Int) != x) = false := by simp; exact hcl
  have HCL := mkHid hcl
  clear hcl
  obtain ⟨q0, q1, q2, _, _, _⟩ := P2.out
  go_wp2_with fail
  clear q0 q1 q2 c0
  refine (rowOf_any S A _ HSM.out HOK.out.k1 HOK.out.v HOK.out.m (fun b hb => (HOK.out.rows b hb).asc) L2.out).mono ?_
  rintro e w3 ⟨hb, Z, rfl, hch⟩
  have HCH := mkHid hch
  have HB3 := mkHid (below_step HB2.out hb)
  have V3 := mkHid (V2.out.below hb)
  have C3 := mkHid (C2.out.below hb)
  clear hb hch P2 L2 HB2 V2 C2
  go_wp2_with fail
  refine (has_any l _ c HVP.out _ Z cs ac cc _ (links_good HOK.out HSZ.out HSM.out) HCC.out HCM.out V3.out C3.out HCH.out).mono ?_
  rintro e w4 ⟨hb, r, rfl, hr⟩
  have HB4 := mkHid (below_step HB3.out hb)
  have HR : Hid (r = true ↔ HasP n (j : Int) S l cs) := mkHid ⟨fun e => ⟨HOK.out, HSZ.out, HVP.out, HCL.out.trans HX.out.symm, hr.1 e⟩, fun h => hr.2 h.has⟩
  clear hb hr
  go_wp2
  go_ret
  exact ⟨HB4.out, r, rfl, HR.out⟩
end Go.Proofs.YtbfmljogfljhdaaGreat
namespace Go.Proofs.YtbfmljogfljhdaaGreat
open Go.RowKit

structure LeP (l : List Int) (B : List (List Y)) (M : List Bool) : Prop where
  le : ∀ (i : Nat) b b' m, B[i]? = some b → B[i + 1]? = some b' → M[i]? = some m → numB l b ≤ numB l b' ∧ (numB l b = numB l b' → m = true)
structure SpecP (l : List Int) (B : List (List Y)) (V : List VV) (M : List Bool) (cs : List CC) : Prop where
  one : ∀ b, b ∈ B → OneP l b
  le : LeP l B M
  cell : ∀ (i : Nat) b b' v, B[i]? = some b → B[i + 1]? = some b' → V[i]? = some v → ∀ (k : Nat) c, numB l b ≤ k → (k : Int) < numB l b' → cs[k]? = some c → hasC v c = true
theorem LeP.mono {l : List Int} {B : List (List Y)} {M : List Bool} (h : LeP l B M) (hm : M.length + 1 = B.length) : ∀ (n i : Nat) b b', B[i]? = some b → B[i + n]? = some b' → numB l b ≤ numB l b'
  | 0, i, b, b', h1, h2 => by rw [Nat.add_zero, h1] at h2; cases h2; exact Int.le_refl _
  | n + 1, i, b, b', h1, h2 => by
    obtain ⟨q, _⟩ := List.getElem?_eq_some_iff.1 h2
    obtain ⟨c, hc⟩ : ∃ c, B[i + n]? = some c := ⟨_, List.getElem?_eq_getElem (by omega)⟩
    obtain ⟨m, hmm⟩ : ∃ m, M[i + n]? = some m := ⟨_, List.getElem?_eq_getElem (by omega)⟩
    have h3 := h.mono hm n i b c h1 hc
    have h4 := (h.le (i + n) c b' m hc h2 hmm).1
    omega
theorem head_some {B : List (List Y)} (h : 1 ≤ B.length) : B[0]? = some (B.headD []) := by
  cases B with
  | nil => simp at h
  | cons b B => rfl
theorem last_some {B : List (List Y)} (h : 1 ≤ B.length) : B[B.length - 1]? = some (B.getLastD []) := by
  cases B with
  | nil => simp at h
  | cons b B => simp [List.getLastD_eq_getLast?, List.getLast?_eq_getElem?]
theorem LeP.range {l : List Int} {B : List (List Y)} {M : List Bool} (h : LeP l B M) (hm : M.length + 1 = B.length) {N : Nat} (h0 : numB l (B.headD []) = 0) (hN : numB l (B.getLastD []) = N) {i : Nat} {b : List Y} (hb : B[i]? = some b) : 0 ≤ numB l b ∧ numB l b ≤ N := by
  obtain ⟨q, _⟩ := List.getElem?_eq_some_iff.1 hb
  have h1 := h.mono hm i 0 _ b (head_some (by omega)) (by rw [Nat.zero_add]; exact hb)
  have h2 := h.mono hm (B.length - 1 - i) i b _ hb (by rw [show i + (B.length - 1 - i) = B.length - 1 by omega]; exact last_some (by omega))
  omega
theorem linksOf_cons {b b' : List Y} {B : List (List Y)} {v : VV} {V : List VV} {m : Bool} {M : List Bool} : linksOf (b :: b' :: B) (v :: V) (m :: M) = ⟨b, v, m⟩ :: linksOf (b' :: B) V M := rfl
theorem linksOf_head (b : List Y) (B : List (List Y)) (V : List VV) (M : List Bool) : ∃ k r, linksOf (b :: B) V M = k :: r ∧ k.b = b := by
  cases B with
  | nil => exact ⟨_, _, rfl, rfl⟩
  | cons c B => exact ⟨_, _, rfl, rfl⟩
theorem hasL_iff (l : List Int) (cs : List CC) : ∀ (B : List (List Y)) (V : List VV) (M : List Bool) (d : Nat), 1 ≤ B.length → V.length + 1 = B.length → M.length + 1 = B.length → numB l (B.headD []) = d → d ≤ cs.length → numB l (B.getLastD []) = cs.length →
    (HasL l (linksOf B V M) (cs.drop d) ↔ SpecP l B V M cs)
  | [], _, _, _, h, _, _, _, _, _ => by simp at h
  | [b], V, M, d, _, hv, hm, h0, hd, hN => by
    constructor
    · intro h
      exact ⟨fun b' hb => by simp at hb; subst hb; exact h, ⟨fun i b b' m h1 h2 => by simp at h2⟩, fun i b b' m h1 h2 => by simp at h2⟩
    · intro h
      exact h.one b (by simp)
  | b :: b' :: B, V, M, d, _, hv, hm, h0, hd, hN => by
    obtain ⟨v, V, rfl⟩ : ∃ v V', V = v :: V' := by cases V with | nil => simp at hv | cons v V => exact ⟨v, V, rfl⟩
    obtain ⟨m, M, rfl⟩ : ∃ v V', M = v :: V' := by cases M with | nil => simp at hm | cons v V => exact ⟨v, V, rfl⟩
    have hv' : V.length + 1 = (b' :: B).length := by simp at hv ⊢; omega
    have hm' : M.length + 1 = (b' :: B).length := by simp at hm ⊢; omega
    have hN' : numB l ((b' :: B).getLastD []) = cs.length := by rw [← hN]; congr 1
    have h0' : numB l b = d := h0
    rw [linksOf_cons]
    obtain ⟨k, r, ek, hk⟩ := linksOf_head b' B V M
    constructor
    · intro h
      rw [ek] at h
      obtain ⟨h1, d', hs, ht⟩ := h
      have hnum : numB l b' - numB l b = d' := by have := hs.num; rw [hk] at this; exact this
      have hle := hs.le
      rw [List.length_drop] at hle
      rw [List.drop_drop, ← ek] at ht
      have IH := (hasL_iff l cs (b' :: B) V M (d + d') (by simp) hv' hm' (by show numB l b' = _; omega) (by omega) hN').1 ht
      refine ⟨fun c hc => ?_, ⟨fun i c c' m' e1 e2 e3 => ?_⟩, fun i c c' v' e1 e2 e3 q x hq1 hq2 hx => ?_⟩
      · rcases List.mem_cons.1 hc with rfl | hc
        · exact h1
        · exact IH.one c hc
      · cases i with
        | zero =>
          simp at e1 e2 e3; subst e1 e2 e3
          exact ⟨by omega, fun e => hs.may (by omega)⟩
        | succ i => exact IH.le.le i c c' m' (by simpa using e1) (by simpa using e2) (by simpa using e3)
      · cases i with
        | zero =>
          simp at e1 e2 e3; subst e1 e2 e3
          refine hs.each x ?_
          refine List.mem_of_getElem? (i := q - d) ?_
          rw [List.getElem?_take, if_pos (by omega), List.getElem?_drop, show d + (q - d) = q by omega]
          exact hx
        | succ i => exact IH.cell i c c' v' (by simpa using e1) (by simpa using e2) (by simpa using e3) q x hq1 hq2 hx
    · intro h
      have HT : SpecP l (b' :: B) V M cs := ⟨fun c hc => h.one c (List.mem_cons_of_mem _ hc), ⟨fun i c c' m' e1 e2 e3 => h.le.le (i + 1) c c' m' (by simpa using e1) (by simpa using e2) (by simpa using e3)⟩, fun i c c' v' e1 e2 e3 => h.cell (i + 1) c c' v' (by simpa using e1) (by simpa using e2) (by simpa using e3)⟩
      have hle := h.le.le 0 b b' m rfl rfl rfl
      have hmx : numB l b' ≤ cs.length := by
        have := HT.le.mono hm' ((b' :: B).length - 1) 0 b' _ rfl (by rw [Nat.zero_add]; exact last_some (by simp))
        rw [hN'] at this
        exact this
      obtain ⟨d', hd'⟩ : ∃ d' : Nat, numB l b' = (d + d' : Nat) := ⟨(numB l b' - d).toNat, by omega⟩
      have IH := (hasL_iff l cs (b' :: B) V M (d + d') (by simp) hv' hm' hd' (by omega) hN').2 HT
      rw [ek] at IH ⊢
      refine ⟨h.one b List.mem_cons_self, d', ⟨by rw [hk]; show numB l b' - numB l b = _; omega, by rw [List.length_drop]; omega, fun e => hle.2 (by omega), fun c hc => ?_⟩, by rw [List.drop_drop]; exact IH⟩
      obtain ⟨q, hq, e⟩ := List.getElem_of_mem hc
      have h1 := List.getElem?_eq_some_iff.2 ⟨hq, e⟩
      have hq' : q < d' := by simp at hq; omega
      rw [List.getElem?_take, if_pos hq', List.getElem?_drop] at h1
      exact h.cell 0 b b' v rfl rfl rfl (d + q) c (by omega) (by omega) h1
/-- The first bound of a Seg that is ok has the number 0, its last one as many as the symbol of the length. -/
theorem numB_of {l : List Int} {b : List Y} {p : Y} (h : OneP l b) (hp : p ∈ b) : numB l b = valY l p := (h.each p hp).symm
theorem ok_first {n lv : Int} {B : List (List Y)} {V : List VV} {M : List Bool} {l : List Int} (h : OkS n lv B V M) (hv : VP l) (ho : ∀ b, b ∈ B → OneP l b) : numB l (B.headD []) = 0 := by
  rw [numB_of (ho _ (List.mem_of_getElem? (head_some h.k1))) h.first]
  have := hv.zero
  simp [valY, List.getD, this]
theorem ok_last {n lv : Int} {B : List (List Y)} {V : List VV} {M : List Bool} {l : List Int} (h : OkS n lv B V M) (ho : ∀ b, b ∈ B → OneP l b) : numB l (B.getLastD []) = l.getD lv.toNat 0 := by
  rw [numB_of (ho _ (List.mem_of_getElem? (last_some h.k1))) h.last]
  simp [valY]
theorem hasL_one (l : List Int) : ∀ (B : List (List Y)) (V : List VV) (M : List Bool) (cs : List CC), V.length + 1 = B.length → M.length + 1 = B.length → HasL l (linksOf B V M) cs → ∀ b, b ∈ B → OneP l b
  | [], _, _, _, h, _, _ => by simp at h
  | [b], _, _, _, _, _, h => fun c hc => by simp at hc; subst hc; exact h
  | b :: b' :: B, V, M, cs, hv, hm, h => by
    obtain ⟨v, V, rfl⟩ : ∃ v V', V = v :: V' := by cases V with | nil => simp at hv | cons v V => exact ⟨v, V, rfl⟩
    obtain ⟨m, M, rfl⟩ : ∃ v V', M = v :: V' := by cases M with | nil => simp at hm | cons v V => exact ⟨v, V, rfl⟩
    rw [linksOf_cons] at h
    obtain ⟨k, r, ek, hk⟩ := linksOf_head b' B V M
    rw [ek] at h
    obtain ⟨h1, d', _, ht⟩ := h
    rw [← ek] at ht
    intro c hc
    rcases List.mem_cons.1 hc with rfl | hc
    · exact h1
    · exact hasL_one l (b' :: B) V M _ (by simp at hv ⊢; omega) (by simp at hm ⊢; omega) ht c hc
/-- What the spec asks, in the program's words. -/
theorem has_spec {n lv : Int} {S : SG} {l : List Int} {cs : List CC} (h : HasP n lv S l cs) : SpecP l S.B S.V S.M cs := by
  have ho := hasL_one l _ _ _ _ h.ok.v h.ok.m h.has
  exact (hasL_iff l cs S.B S.V S.M 0 h.ok.k1 h.ok.v h.ok.m (ok_first h.ok h.vp ho) (Nat.zero_le _) ((ok_last h.ok ho).trans h.len.symm)).1 h.has
theorem spec_has {n lv : Int} {S : SG} {l : List Int} {cs : List CC} (hok : OkS n lv S.B S.V S.M) (hn : (l.length : Int) = n) (hv : VP l) (hl : (cs.length : Int) = l.getD lv.toNat 0) (h : SpecP l S.B S.V S.M cs) : HasP n lv S l cs :=
  ⟨hok, hn, hv, hl, (hasL_iff l cs S.B S.V S.M 0 hok.k1 hok.v hok.m (ok_first hok hv h.one) (Nat.zero_le _) ((ok_last hok h.one).trans hl.symm)).2 h⟩
end Go.Proofs.YtbfmljogfljhdaaGreat
namespace Go.Proofs.YtbfmljogfljhdaaGreat
open Go.RowKit

structure SvP (n : Int) (l : List Int) : Prop where
  len : (l.length : Int) = n
  n1 : 1 ≤ l.length
  zero : l[0]? = some 0
  each : ∀ x, x ∈ l → valB x = true
set_option maxRecDepth 100000 in
set_option maxHeartbeats 1600000 in
theorem sVals_any (n : Int) (l : List Int) (a : Option Addr) (c : Nat) (w : World) (hn : l.length ≤ 1048576) (hl : At eI w a l) :
    Calls Tryz.prog 39 #[.int .i64 n, .slice a l.length c] w fun e w' => Tells w w' e (SvP n l) := by
  have HL := mkHid hl
  clear hl
  by_cases hsz : (l.length : Int) ≠ n
  · have hs2 : ((l.length : Int) != n) = true := by simp; exact hsz
    have HNO : Hid (¬ SvP n l) := mkHid fun h => hsz h.len
    clear hsz
    go_enter Tryz.func39, Tryz.ntmps39
    go_wp2
    go_ret
    exact Tells.no (Below.refl _ _) HNO.out
  replace hsz := Decidable.not_not.1 hsz
  subst hsz
  have hs2 : ((l.length : Int) != (l.length : Int)) = false := by simp
  by_cases h1 : (l.length : Int) < 1
  · have HNO : Hid (¬ SvP (l.length : Int) l) := mkHid fun h => by have := h.n1; omega
    have h1' : decide ((l.length : Int) < 1) = true := decide_eq_true h1
    go_enter Tryz.func39, Tryz.ntmps39
    go_wp2
    go_ret
    exact Tells.no (Below.refl _ _) HNO.out
  have h1' : decide ((l.length : Int) < 1) = false := decide_eq_false h1
  obtain ⟨x, hx⟩ : ∃ x, l[0]? = some x := ⟨_, List.getElem?_eq_getElem (by omega)⟩
  obtain ⟨b, off, rfl, _, hq⟩ := HL.out.cons (by omega)
  have c0 := get_i hq hx
  rw [Nat.add_zero] at c0
  have HX := mkHid hx
  have i00 : (0 : Int) < (l.length : Int) := by omega
  clear hq hx
  by_cases hx0 : x ≠ 0
  · have hx1 : (x != 0) = true := by simp; exact hx0
    have HNO : Hid (¬ SvP (l.length : Int) l) := mkHid fun h => hx0 (by have h1 := h.zero; rw [HX.out] at h1; exact Option.some.inj h1)
    clear hx0
    go_enter Tryz.func39, Tryz.ntmps39
    go_wp2
    go_ret
    exact Tells.no (Below.refl _ _) HNO.out
  replace hx0 := Decidable.not_not.1 hx0
  have hx1 : (x != 0) = false := by simp; exact hx0
  have HZ : Hid (l[0]? = some 0) := mkHid (by rw [HX.out, hx0])
  clear hx0
  go_enter Tryz.func39, Tryz.ntmps39
  go_wp2
  clear c0 hx1 HX
  go_loopg [5] l.length (fun g s5 wr => ∃ (k : Nat), k ≤ l.length ∧ s5 = .int .i64 k ∧ l.length - k ≤ g ∧ (∀ q (x : Int), q < k → l[q]? = some x → valB x = true) ∧ wr = w)
  case atStart => exact ⟨0, Nat.zero_le _, rfl, by omega, fun q x h => by omega, rfl⟩
  case round =>
    obtain ⟨k, hk, rfl, hgk, hsy, rfl⟩ := hrel
    have HS := mkHid hsy
    clear hsy
    by_cases hlt : k < l.length
    · obtain ⟨x, hx⟩ : ∃ x, l[k]? = some x := ⟨_, List.getElem?_eq_getElem hlt⟩
      obtain ⟨b', off', e, _, hq⟩ := HL.out.cons (by omega)
      cases e
      have c0 := get_i hq hx
      have HX := mkHid hx
      clear hq hx
      have i0 : (0 : Int) ≤ (k : Int) := by omega
      have i1 : (k : Int) < (l.length : Int) := by omega
      go_wp2_with fail
      refine (sVal_any x _).mono ?_
      rintro e w1 ⟨rfl, rfl⟩
      cases hso : valB x
      · have HNO : Hid (¬ SvP (l.length : Int) l) := mkHid fun h => Bool.false_ne_true (hso.symm.trans (h.each x (List.mem_of_getElem? HX.out)))
        go_wp2
        go_ret
        exact Tells.no (Below.refl _ _) HNO.out
      · have HNX : Hid (∀ q (x : Int), q < k + 1 → l[q]? = some x → valB x = true) := mkHid fun q y hq hy => (by omega : q < k ∨ q = k).elim (fun h => HS.out q y h hy) (fun h => by subst h; rw [HX.out] at hy; cases hy; exact hso)
        go_wp2
        go_roundg (l.length - (k + 1))
        case measure => omega
        case rel => exact ⟨k + 1, by omega, by go_num, Nat.le_refl _, HNX.out, by trivial⟩
    · have HSA : Hid (SvP (l.length : Int) l) := mkHid ⟨rfl, by omega, HZ.out, fun p hp => by obtain ⟨q, hq, rfl⟩ := List.getElem_of_mem hp; exact HS.out q _ (by omega) (List.getElem?_eq_getElem hq)⟩
      have i1 : ¬ (k : Int) < (l.length : Int) := by omega
      go_wp2
      go_ret
      exact Tells.yes (Below.refl _ _) HSA.out
end Go.Proofs.YtbfmljogfljhdaaGreat
