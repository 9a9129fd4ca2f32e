/-
  CONTRACTS of site.searches and site.span.
  CONTRACTS of both SegSpans.
  CONTRACTS of both SegReads.
  PURE: cells that are written weakly. ROWS OF CELLS WRITTEN IN PLACE.
-/
import Derived.Test.YtihpajiololfoaaGreatCc37
import Derived.Test.YtihpajiololfoaaGreatCc36
import Derived.Test.YtihpajiololfoaaGreatCc25
import Derived.Test.YtihpajiololfoaaGreatCc26
import Derived.Deep.Cut
import Derived.Test.YtihpajiololfoaaGreatCc17
import Derived.Laws.OwnMore
namespace Go.Proofs.YtihpajiololfoaaGreat
open Go.RowKit

set_option maxRecDepth 100000 in
set_option maxHeartbeats 1600000 in
theorem searches_any (z lv : Int) (A : SAd) (S : SG) (n : Int) (G : List Int) (hG : G.length = 169) (a b : Y) (w : World) : Calls Tryz.prog 100 #[.agg (sA z lv A S n G), .agg #[.int .i64 a.1, .int .i64 a.2], .agg #[.int .i64 b.1, .int .i64 b.2]] w fun e w' => ∃ X, e = .returned (.tuple #[.func (.func 135) #[] #[.pointer (some ⟨X, 0, none⟩), .pointer (some ⟨X + 1, 0, none⟩)], .func (.func 136) #[] #[.pointer (some ⟨X, 0, none⟩), .pointer (some ⟨X + 2, 0, none⟩)]]) ∧ St w' X z lv A S n G ∧ Box w' (X + 1) a.1 a.2 ∧ Box w' (X + 2) b.1 b.2 ∧ Below w.heap.size w w' := by
  obtain ⟨w0, hw0⟩ : ∃ q, ((w.alloc (.cells (sA z lv A S n G) 82)).alloc (.cells #[.int .i64 a.1, .int .i64 a.2] 49)).alloc (.cells #[.int .i64 b.1, .int .i64 b.2] 49) = q := ⟨_, rfl⟩
  obtain ⟨X, hX⟩ : ∃ q, w.heap.size = q := ⟨_, rfl⟩
  have B0 : Hid (Below w.heap.size w w0) := mkHid (by rw [← hw0]; exact bl_alloc (bl_alloc (bl_alloc (Below.refl _ _) _) _) _)
  have D0 : Hid (St w0 X z lv A S n G) := mkHid (by rw [← hw0, ← hX]; exact (St.new w z lv A S n hG 82).below (bl_alloc (bl_alloc (Below.refl _ _) _) _))
  have P0 : Hid (Box w0 (X + 1) a.1 a.2) := mkHid (by rw [← hw0, ← hX]; have := (Box.new' (w.alloc (.cells (sA z lv A S n G) 82)) a.1 a.2 49).below (bl_alloc (Below.refl _ _) (.cells #[.int .i64 b.1, .int .i64 b.2] 49)); simpa using this)
  have R0 : Hid (Box w0 (X + 2) b.1 b.2) := mkHid (by rw [← hw0, ← hX]; have := Box.new' ((w.alloc (.cells (sA z lv A S n G) 82)).alloc (.cells #[.int .i64 a.1, .int .i64 a.2] 49)) b.1 b.2 49; simpa using this)
  go_enter Tryz.func100, Tryz.ntmps100
  go_wp2
  first | rw [hw0] | skip
  first | rw [hX] | skip
  exact bodyPost_ret (v := .tuple #[.func (.func 135) #[] #[.pointer (some ⟨X, 0, none⟩), .pointer (some ⟨X + 1, 0, none⟩)], .func (.func 136) #[] #[.pointer (some ⟨X, 0, none⟩), .pointer (some ⟨X + 2, 0, none⟩)]]) (by simp [results, Tryz.results100, go_sem]) rfl ⟨X, rfl, D0.out, P0.out, R0.out, by first | exact B0.out | (rw [← hX]; exact B0.out)⟩
set_option maxRecDepth 100000 in
set_option maxHeartbeats 6400000 in
theorem iSpan_any (z lv : Int) (A : SAd) (S : SG) (n : Nat) (f : Q.Tab) (h2 : n ≤ 13) (hbd : Q.Bd n f 10000000) (a b : Y) (ha : Wd n a) (hb : Wd n b) (w : World) (hs : Small S) (hk : 1 ≤ S.B.length) (hW : Wds n S.B) (hS : SegAt w A S) :
    Calls Tryz.prog 59 #[.agg (sA z lv A S n (Q.grid n f)), .agg #[.int .i64 a.1, .int .i64 a.2], .agg #[.int .i64 b.1, .int .i64 b.2]] w fun e w' => e = .returned (.tuple #[.int .i64 (span f S.B a b).1, .int .i64 (span f S.B a b).2]) ∧ Below w.heap.size w w' := by
  have hkm := hs.b
  obtain ⟨m, hm⟩ : ∃ m, S.B.length = m + 1 := ⟨S.B.length - 1, by omega⟩
  obtain ⟨G, hG⟩ : ∃ G, Q.grid n f = G := ⟨_, rfl⟩
  have hGL : G.length = 169 := by rw [← hG]; exact Q.grid_len n f
  have HLA : Hid (∀ v, Calls Tryz.prog 99 #[.agg (sA z lv A S n G)] v fun e w' => e = .returned (.int .i64 (m : Int)) ∧ Below v.heap.size v w') := mkHid fun v => by have := last_any z lv A S n G hGL v hkm; rw [show (S.B.length : Int) - 1 = (m : Int) by omega] at this; exact this
  have HSR : Hid (∀ v, Calls Tryz.prog 100 #[.agg (sA z lv A S n G), .agg #[.int .i64 a.1, .int .i64 a.2], .agg #[.int .i64 b.1, .int .i64 b.2]] v fun e w' => ∃ X, e = .returned (.tuple #[.func (.func 135) #[] #[.pointer (some ⟨X, 0, none⟩), .pointer (some ⟨X + 1, 0, none⟩)], .func (.func 136) #[] #[.pointer (some ⟨X, 0, none⟩), .pointer (some ⟨X + 2, 0, none⟩)]]) ∧ St w' X z lv A S n G ∧ Box w' (X + 1) a.1 a.2 ∧ Box w' (X + 2) b.1 b.2 ∧ Below v.heap.size v w') := mkHid fun v => searches_any z lv A S n G hGL a b v
  have HDN : Hid (∀ (X R at0 : Nat) (v : World), at0 ≤ m → SegAt v A S → St v X z lv A S n G → Box v R a.1 a.2 → Calls Tryz.prog 135 #[.int .i64 at0, .pointer (some ⟨X, 0, none⟩), .pointer (some ⟨R, 0, none⟩)] v fun e w' => e = .returned (.int .i64 (dn (pF f S.B a) at0 : Nat)) ∧ Below v.heap.size v w') := mkHid fun X R at0 v q1 q2 q3 q4 => down_any z lv A S n f h2 hbd a ha X R at0 m v hs hm q1 hW q2 (by rw [hG]; exact q3) q4
  have HUP : Hid (∀ (X R at0 : Nat) (v : World), at0 ≤ m → SegAt v A S → St v X z lv A S n G → Box v R b.1 b.2 → Calls Tryz.prog 136 #[.int .i64 at0, .pointer (some ⟨X, 0, none⟩), .pointer (some ⟨R, 0, none⟩)] v fun e w' => e = .returned (.int .i64 (uq (pT f S.B b) m (m - at0) : Nat)) ∧ Below v.heap.size v w') := mkHid fun X R at0 v q1 q2 q3 q4 => up_any z lv A S n f h2 hbd b hb X R at0 m v hs hm q1 hW q2 (by rw [hG]; exact q3) q4
  rw [hG]
  obtain ⟨w0, hw0⟩ : ∃ q, ((w.alloc (.cells (sA z lv A S n G) 82)).alloc (.cells #[.int .i64 a.1, .int .i64 a.2] 49)).alloc (.cells #[.int .i64 b.1, .int .i64 b.2] 49) = q := ⟨_, rfl⟩
  obtain ⟨X, hX⟩ : ∃ q, w.heap.size = q := ⟨_, rfl⟩
  have B0 : Hid (Below w.heap.size w w0) := mkHid (by rw [← hw0]; exact bl_alloc (bl_alloc (bl_alloc (Below.refl _ _) _) _) _)
  have D0 : Hid (St w0 X z lv A S n G) := mkHid (by rw [← hw0, ← hX]; exact (St.new w z lv A S n hGL 82).below (bl_alloc (bl_alloc (Below.refl _ _) _) _))
  have P0 : Hid (Box w0 (X + 1) a.1 a.2) := mkHid (by rw [← hw0, ← hX]; have := (Box.new' (w.alloc (.cells (sA z lv A S n G) 82)) a.1 a.2 49).below (bl_alloc (Below.refl _ _) (.cells #[.int .i64 b.1, .int .i64 b.2] 49)); simpa using this)
  have R0 : Hid (Box w0 (X + 2) b.1 b.2) := mkHid (by rw [← hw0, ← hX]; have := Box.new' ((w.alloc (.cells (sA z lv A S n G) 82)).alloc (.cells #[.int .i64 a.1, .int .i64 a.2] 49)) b.1 b.2 49; simpa using this)
  have HS := mkHid (hS.below B0.out)
  have HM := mkHid hm
  clear hS hG hs hW hbd ha hb
  by_cases h1 : m = 0
  · subst h1
    rw [span_one hm]
    clear hm hk
    go_enter Tryz.func59, Tryz.ntmps59
    go_wp2_with (first | (refine wp_load82 (by first | exact D0.out | (rw [hw0]; first | rw [hX] | skip; exact D0.out)) rfl rfl rfl ?_) | (go_at_call 99; first | rw [hw0] | skip; refine (HLA.out _).mono ?_; rintro e w1 ⟨rfl, hb1⟩))
    exact bodyPost_ret (v := .tuple #[.int .i64 0, .int .i64 0]) (by simp [results, Tryz.results59, go_sem]) rfl ⟨rfl, below_step B0.out hb1⟩
  · obtain ⟨from', hfr⟩ : ∃ q, spF f S.B a = q := ⟨_, rfl⟩
    have HFR : Hid (dn (pF f S.B a) (m - 1) = from') := mkHid (by rw [← hfr]; unfold spF; rw [hm]; rfl)
    have hfl : from' ≤ m - 1 := by rw [← HFR.out]; exact dn_le _ _
    obtain ⟨to', hto⟩ : ∃ q, spT f S.B a b = q := ⟨_, rfl⟩
    have HTO : Hid (uq (pT f S.B b) m (m - (from' + 1)) = to') := mkHid (by rw [← hto]; unfold spT; rw [hfr, hm]; rfl)
    have hm1 : ((m : Int) == 0) = false := by simpa using h1
    have hw1 : IntKind.i64.wrap ((m : Int) - 1) = ((m - 1 : Nat) : Int) := by rw [IntWalk.i64_in _ ⟨by omega, by omega⟩]; omega
    have hw2 : IntKind.i64.wrap ((from' : Int) + 1) = ((from' + 1 : Nat) : Int) := by rw [IntWalk.i64_in _ ⟨by omega, by omega⟩]; omega
    rw [span_more (by omega), hfr, hto]
    clear hfr hto hm hk
    go_enter Tryz.func59, Tryz.ntmps59
    go_wp2_with (first | (refine wp_load82 (by first | exact D0.out | (rw [hw0]; first | rw [hX] | skip; exact D0.out)) rfl rfl rfl ?_))
    first | rw [hw0] | skip
    refine (HLA.out _).mono ?_
    rintro e w1 ⟨rfl, hb1⟩
    have B1 := mkHid (below_step B0.out hb1)
    have S1 := mkHid (HS.out.below hb1)
    have D1 := mkHid (D0.out.below hb1)
    obtain ⟨p0, p1, _, _⟩ := P0.out.below hb1
    obtain ⟨r0, r1, _, _⟩ := R0.out.below hb1
    clear hb1 hw0 P0 R0
    go_wp2_with (first | (refine wp_load82 (by first | exact D1.out | (rw [hX]; exact D1.out)) rfl rfl rfl ?_))
    refine (HSR.out _).mono ?_
    rintro e w2 ⟨X', rfl, hD', hP', hR', hb2⟩
    have B2 := mkHid (below_step B1.out hb2)
    have S2 := mkHid (S1.out.below hb2)
    have D2 := mkHid (D1.out.below hb2)
    have D2' := mkHid hD'
    have P2' := mkHid hP'
    have R2' := mkHid hR'
    clear hb2 hD' hP' hR' p0 p1 r0 r1 B1 S1 D1
    go_wp2_with (first | (refine wp_load82 (by first | exact D2.out | (rw [hX]; exact D2.out)) rfl rfl rfl ?_))
    refine (HLA.out _).mono ?_
    rintro e w3 ⟨rfl, hb3⟩
    have B3 := mkHid (below_step B2.out hb3)
    have S3 := mkHid (S2.out.below hb3)
    have D3' := mkHid (D2'.out.below hb3)
    have P3' := mkHid (P2'.out.below hb3)
    have R3' := mkHid (R2'.out.below hb3)
    clear hb3 B2 S2 D2 D2' P2' R2'
    go_wp2_with fail
    refine (HDN.out X' (X' + 1) (m - 1) _ (by omega) S3.out D3'.out P3'.out).mono ?_
    rw [HFR.out]
    rintro e w4 ⟨rfl, hb4⟩
    have B4 := mkHid (below_step B3.out hb4)
    have S4 := mkHid (S3.out.below hb4)
    have D4' := mkHid (D3'.out.below hb4)
    have R4' := mkHid (R3'.out.below hb4)
    clear hb4 B3 S3 D3' P3' R3'
    go_wp2_with fail
    refine (HUP.out X' (X' + 2) (from' + 1) _ (by omega) S4.out D4'.out R4'.out).mono ?_
    rw [HTO.out]
    rintro e w5 ⟨rfl, hb5⟩
    have B5 := mkHid (below_step B4.out hb5)
    clear hb5
    go_wp2
    exact bodyPost_ret (v := .tuple #[.int .i64 from', .int .i64 to']) (by simp [results, Tryz.results59, go_sem]) rfl ⟨rfl, B5.out⟩
end Go.Proofs.YtihpajiololfoaaGreat
namespace Go.Proofs.YtihpajiololfoaaGreat
open Go.RowKit

/-- The arguments may be worked with: a size, a table. -/
def Site (size lv : Int) (S : SG) (z : Int) (l : List Int) (Ts : List Y) (n : Nat) (f : Q.Tab) : Prop := size = n ∧ z = n ∧ cF z l = some f ∧ OkS size lv S.B S.V S.M ∧ ∀ x, x ∈ Ts → Wd n x
def NoSite (size lv : Int) (S : SG) (z : Int) (l : List Int) (Ts : List Y) : Prop := ¬ (OkS size lv S.B S.V S.M ∧ FS z l size ∧ ∀ x, x ∈ Ts → Wd size.toNat x)
theorem Site.not {size lv : Int} {S : SG} {z : Int} {l : List Int} {Ts : List Y} {n : Nat} {f : Q.Tab} (h : Site size lv S z l Ts n f) : ¬ NoSite size lv S z l Ts := fun k => by
 obtain ⟨h1, h2, h3, h4, h5⟩ := h
 exact k ⟨h4, ⟨f, h3, h2.trans h1.symm⟩, fun x hx => by rw [h1, Int.toNat_natCast]; exact h5 x hx⟩
theorem Site.one {size lv : Int} {S : SG} {z : Int} {l : List Int} {Ts : List Y} {n n' : Nat} {f f' : Q.Tab} (h : Site size lv S z l Ts n f) (h' : Site size lv S z l Ts n' f') : n = n' ∧ f = f' := by
 obtain ⟨h1, h2, h3, h4, h5⟩ := h
 obtain ⟨k1, k2, k3, _, _⟩ := h'
 exact ⟨by omega, by rw [h3] at k3; exact Option.some.inj k3⟩
theorem Site.wds {size lv : Int} {S : SG} {z : Int} {l : List Int} {Ts : List Y} {n : Nat} {f : Q.Tab} (h : Site size lv S z l Ts n f) : Wds n S.B := fun b hb x hx => by
 obtain ⟨h1, h2, h3, h4, h5⟩ := h
 have := (h4.rows b hb).sym x hx
 unfold symP at this
 exact ⟨⟨by omega, by omega⟩, by omega, by omega⟩
theorem Site.bd {size lv : Int} {S : SG} {z : Int} {l : List Int} {Ts : List Y} {n : Nat} {f : Q.Tab} (h : Site size lv S z l Ts n f) : n ≤ 13 ∧ Q.Bd n f 10000000 := by
 obtain ⟨h1, h2, h3, h4, h5⟩ := h
 have := (cF_fine z l).good f h3
 rw [h2, Int.toNat_natCast] at this
 exact ⟨this.2.1, this.2.2⟩
theorem two_at (w : World) (a b : Y) (T : TypeId) : At eY (w.alloc (.cells #[.int .i64 a.1, .int .i64 a.2, .int .i64 b.1, .int .i64 b.2] T)) (some ⟨w.heap.size, 0, none⟩) [a, b] := by
 refine .inr ⟨_, _, rfl, fun i x hi j v hv => ?_⟩
 match i, hi with
 | 0, hi =>
  simp at hi
  subst hi
  match j, hv with
  | 0, hv => simp [eY] at hv; subst hv; simp [go_sem, eY]
  | 1, hv => simp [eY] at hv; subst hv; simp [go_sem, eY]
  | j + 2, hv => simp [eY] at hv
 | 1, hi =>
  simp at hi
  subst hi
  match j, hv with
  | 0, hv => simp [eY] at hv; subst hv; simp [go_sem, eY]
  | 1, hv => simp [eY] at hv; subst hv; simp [go_sem, eY]
  | j + 2, hv => simp [eY] at hv
 | i + 2, hi => simp at hi
/-- What SegSpan answers. -/
def SpR (size lv : Int) (S : SG) (z : Int) (l : List Int) (x y : Y) (r : Nat × Nat) : Prop := (∃ n f, Site size lv S z l [x, y] n f ∧ r = span f S.B x y) ∨ (NoSite size lv S z l [x, y] ∧ r = (0, 0))
theorem SpR.one {size lv : Int} {S : SG} {z : Int} {l : List Int} {x y : Y} {r r' : Nat × Nat} (h : SpR size lv S z l x y r) (h' : SpR size lv S z l x y r') : r = r' := by
 rcases h with ⟨n, f, h1, h2⟩ | ⟨h1, h2⟩ <;> rcases h' with ⟨n', f', k1, k2⟩ | ⟨k1, k2⟩
 ·obtain ⟨rfl, rfl⟩ := h1.one k1; rw [h2, k2]
 ·exact absurd k1 h1.not
 ·exact absurd h1 k1.not
 ·rw [h2, k2]
end Go.Proofs.YtihpajiololfoaaGreat
namespace Go.Proofs.YtihpajiololfoaaGreat
open Go.RowKit

theorem span_ok {f : Q.Tab} {B : List (List Y)} (a b : Y) (h : 1 ≤ B.length) : (span f B a b).1 ≤ (span f B a b).2 ∧ (span f B a b).2 ≤ B.length - 1 := by
 by_cases h1 : B.length = 1
 ·rw [span_one h1]; exact ⟨Nat.le_refl _, Nat.zero_le _⟩
 ·rw [span_more (by omega)]
  have h2 := dn_le (pF f B a) (B.length - 2)
  have h3 := uq_le (pT f B b) (B.length - 1) (B.length - 1 - (spF f B a + 1))
  have h4 := uq_ge (pT f B b) (B.length - 1) (B.length - 1 - (spF f B a + 1))
  refine ⟨?_, h3⟩
  show spF f B a ≤ spT f B a b
  unfold spT
  have : spF f B a ≤ B.length - 2 := h2
  omega
def readV (f : Q.Tab) (S : SG) (a b : Y) : VV := amg S.V (span f S.B a b).1 ((span f S.B a b).2 - (span f S.B a b).1)
/-- What SegRead answers. -/
def RdR (size lv : Int) (S : SG) (z : Int) (l : List Int) (x y : Y) (r : VV) : Prop := (∃ n f, Site size lv S z l [x, y] n f ∧ r = readV f S x y) ∨ (NoSite size lv S z l [x, y] ∧ r = noneV)
theorem RdR.one {size lv : Int} {S : SG} {z : Int} {l : List Int} {x y : Y} {r r' : VV} (h : RdR size lv S z l x y r) (h' : RdR size lv S z l x y r') : r = r' := by
 rcases h with ⟨n, f, h1, h2⟩ | ⟨h1, h2⟩ <;> rcases h' with ⟨n', f', k1, k2⟩ | ⟨k1, k2⟩
 ·obtain ⟨rfl, rfl⟩ := h1.one k1; rw [h2, k2]
 ·exact absurd k1 h1.not
 ·exact absurd h1 k1.not
 ·rw [h2, k2]
theorem RdR.ex (size lv : Int) (S : SG) (z : Int) (l : List Int) (x y : Y) : ∃ r, RdR size lv S z l x y r := by
 by_cases h : OkS size lv S.B S.V S.M ∧ FS z l size ∧ ∀ t, t ∈ [x, y] → Wd size.toNat t
 ·obtain ⟨h1, ⟨f, h2, h3⟩, h4⟩ := h
  obtain ⟨n, q0, _, _⟩ := cF_size h2
  have hs : size = n := h3.symm.trans q0
  exact ⟨_, .inl ⟨n, f, ⟨hs, q0, h2, h1, fun t ht => by have := h4 t ht; rw [hs, Int.toNat_natCast] at this; exact this⟩, rfl⟩⟩
 ·exact ⟨_, .inr ⟨h, rfl⟩⟩
end Go.Proofs.YtihpajiololfoaaGreat
namespace Go.Proofs.YtihpajiololfoaaGreat
open Go.RowKit

def jr (ra rb : Int) (x : VV) : VV := ((joinM x.1 x.2.1 ra rb).1, (joinM x.1 x.2.1 ra rb).2, x.2.2)
/-- So many cells from one on have a range more. -/
def wkV (ra rb : Int) (V : List VV) (fr : Nat) : Nat → List VV
  | 0 => V
  | k + 1 => (wkV ra rb V fr k).set (fr + k) (jr ra rb (V.getD (fr + k) noneV))
theorem wkV_len (ra rb : Int) (V : List VV) (fr : Nat) : ∀ k, (wkV ra rb V fr k).length = V.length
  | 0 => rfl
  | k + 1 => by show ((wkV ra rb V fr k).set _ _).length = _; rw [List.length_set]; exact wkV_len ra rb V fr k
theorem wkV_get (ra rb : Int) (V : List VV) (fr : Nat) : ∀ k i, fr + k ≤ i → (wkV ra rb V fr k)[i]? = V[i]?
  | 0, _, _ => rfl
  | k + 1, i, h => by
    show ((wkV ra rb V fr k).set _ _)[i]? = _
    rw [List.getElem?_set_ne (by omega)]
    exact wkV_get ra rb V fr k i (by omega)
theorem wkV_next {ra rb : Int} {V : List VV} {fr k : Nat} {x : VV} (h : V[fr + k]? = some x) : wkV ra rb V fr (k + 1) = (wkV ra rb V fr k).set (fr + k) (jr ra rb x) := by
  show (wkV ra rb V fr k).set _ _ = _
  rw [List.getD_eq_getElem?_getD, h]
  rfl
def weakSG (f : Q.Tab) (S : SG) (a b : Y) (ra rb : Int) : SG := ⟨S.B, wkV ra rb S.V (span f S.B a b).1 ((span f S.B a b).2 - (span f S.B a b).1), S.M⟩
theorem segL_links : ∀ (B : List (List Y)) (V : List VV) (M : List Bool), 1 ≤ B.length → V.length + 1 = B.length → M.length + 1 = B.length → segL (linksOf B V M) = ⟨B, V, M⟩
  | [], _, _, h, _, _ => by simp at h
  | [b], V, M, _, hv, hm => by
    have e1 : V = [] := List.eq_nil_of_length_eq_zero (by simpa using hv)
    have e2 : M = [] := List.eq_nil_of_length_eq_zero (by simpa using hm)
    subst e1 e2
    rfl
  | b :: b2 :: B, V, M, _, hv, hm => by
    obtain ⟨v, V, rfl⟩ : ∃ v V', V = v :: V' := by cases V with | nil => simp at hv | cons v V => exact ⟨v, V, rfl⟩
    obtain ⟨m, M, rfl⟩ : ∃ v V', M = v :: V' := by cases M with | nil => simp at hm | cons v V => exact ⟨v, V, rfl⟩
    have ih := segL_links (b2 :: B) V M (by simp) (by simpa using hv) (by simpa using hm)
    have hne : linksOf (b2 :: B) V M ≠ [] := by cases B <;> simp [linksOf]
    have e : linksOf (b :: b2 :: B) (v :: V) (m :: M) = ⟨b, v, m⟩ :: linksOf (b2 :: B) V M := rfl
    rw [e]
    unfold segL at ih ⊢
    simp only [SG.mk.injEq] at ih ⊢
    obtain ⟨i1, i2, i3⟩ := ih
    refine ⟨by rw [List.map_cons, i1], ?_, ?_⟩
    · rw [List.dropLast_cons_of_ne_nil hne, List.map_cons, i2]
    · rw [List.dropLast_cons_of_ne_nil hne, List.map_cons, i3]
theorem tidyR_same : ∀ (B : List (List Y)) (V : List VV) (M : List Bool), (∀ b, b ∈ B → b ≠ []) → V.length = B.length → M.length = B.length → (∀ x, x ∈ V → okB x.1 x.2.1 = true) → tidyR noneV true B V M = (B, V, M)
  | [], V, M, _, hv, hm, _ => by
    have e1 : V = [] := List.eq_nil_of_length_eq_zero (by simpa using hv)
    have e2 : M = [] := List.eq_nil_of_length_eq_zero (by simpa using hm)
    subst e1 e2
    rfl
  | b :: B, [], _, _, hv, _, _ => by simp at hv
  | b :: B, _ :: _, [], _, _, hm, _ => by simp at hm
  | b :: B, x :: V, m :: M, hb, hv, hm, ho => by
    have ih := tidyR_same B V M (fun c hc => hb c (List.mem_cons_of_mem _ hc)) (by simpa using hv) (by simpa using hm) (fun y hy => ho y (List.mem_cons_of_mem _ hy))
    have hx := jv_none (ho x (List.mem_cons_self ..))
    unfold tidyR
    rw [if_neg (hb b (List.mem_cons_self ..)), ih, hx]
    simp
theorem tidyS_same {size lv : Int} {S : SG} (h : OkS size lv S.B S.V S.M) : tidyS S = S := by
  obtain ⟨B, V, M⟩ := S
  cases B with
  | nil => have := h.k1; simp at this
  | cons b B =>
    have := tidyR_same B V M (fun c hc => (h.rows c (List.mem_cons_of_mem _ hc)).ne) (by have := h.v; simpa using this) (by have := h.m; simpa using this) h.vals
    unfold tidyS
    simp only [List.tail_cons, List.headD_cons]
    rw [this]
theorem flat_set2 {V : List VV} {q : Nat} {x : VV} (hx : V[q]? = some x) (p r : Int) : ((eV.flat V).set (q * 3) (.int .i64 p)).set (q * 3 + 1) (.int .i64 r) = eV.flat (V.set q (p, r, x.2.2)) := by
  obtain ⟨e, hl⟩ := split_at hx
  have hq : q < V.length := (List.getElem?_eq_some_iff.1 hx).1
  have hs : V.set q (p, r, x.2.2) = V.take q ++ (p, r, x.2.2) :: V.drop (q + 1) := by
    rw [List.set_eq_take_append_cons_drop, if_pos hq]
  rw [hs]
  have hL : (eV.flat (V.take q)).length = q * 3 := by rw [El.flat_len, hl]; rfl
  conv => lhs; rw [e]
  simp only [El.flat_app, El.flat_cons]
  have e3 : eV.enc x = [.int .i64 x.1, .int .i64 x.2.1, .bool x.2.2] := rfl
  have e4 : eV.enc (p, r, x.2.2) = [.int .i64 p, .int .i64 r, .bool x.2.2] := rfl
  rw [e3, e4]
  rw [List.set_append_right _ _ (by omega), hL, Nat.sub_self, List.set_append_right _ _ (by omega), hL, show q * 3 + 1 - q * 3 = 1 by omega]
  rfl
end Go.Proofs.YtihpajiololfoaaGreat
