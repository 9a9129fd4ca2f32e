/-
  CONTRACTS of site.searches and site.span.
  ONE REGION of the specification's SegOk (a term asked of, in every order), taken out of its code.
-/
import Derived.Test.YtihpajiololfoaaGreatCb20
import Derived.Test.YtihpajiololfoaaGreatCb15
namespace Go.Proofs.YtihpajiololfoaaGreat
open Go.RowKit

set_option maxRecDepth 100000 in
set_option maxHeartbeats 1600000 in
theorem searches_any (z lv : Int) (A : SAd) (S : SG) (n : Int) (G : List Int) (hG : G.length = 169) (a b : Y) (w : World) : Calls Tryz.prog 100 #[.agg (sA z lv A S n G), .agg #[.int .i64 a.1, .int .i64 a.2], .agg #[.int .i64 b.1, .int .i64 b.2]] w fun e w' => ∃ X, e = .returned (.tuple #[.func (.func 135) #[] #[.pointer (some ⟨X, 0, none⟩), .pointer (some ⟨X + 1, 0, none⟩)], .func (.func 136) #[] #[.pointer (some ⟨X, 0, none⟩), .pointer (some ⟨X + 2, 0, none⟩)]]) ∧ St w' X z lv A S n G ∧ Box w' (X + 1) a.1 a.2 ∧ Box w' (X + 2) b.1 b.2 ∧ Below w.heap.size w w' := by
  obtain ⟨w0, hw0⟩ : ∃ q, ((w.alloc (.cells (sA z lv A S n G) 82)).alloc (.cells #[.int .i64 a.1, .int .i64 a.2] 49)).alloc (.cells #[.int .i64 b.1, .int .i64 b.2] 49) = q := ⟨_, rfl⟩
  obtain ⟨X, hX⟩ : ∃ q, w.heap.size = q := ⟨_, rfl⟩
  have B0 : Hid (Below w.heap.size w w0) := mkHid (by rw [← hw0]; exact bl_alloc (bl_alloc (bl_alloc (Below.refl _ _) _) _) _)
  have D0 : Hid (St w0 X z lv A S n G) := mkHid (by rw [← hw0, ← hX]; exact (St.new w z lv A S n hG 82).below (bl_alloc (bl_alloc (Below.refl _ _) _) _))
  have P0 : Hid (Box w0 (X + 1) a.1 a.2) := mkHid (by rw [← hw0, ← hX]; have := (Box.new' (w.alloc (.cells (sA z lv A S n G) 82)) a.1 a.2 49).below (bl_alloc (Below.refl _ _) (.cells #[.int .i64 b.1, .int .i64 b.2] 49)); simpa using this)
  have R0 : Hid (Box w0 (X + 2) b.1 b.2) := mkHid (by rw [← hw0, ← hX]; have := Box.new' ((w.alloc (.cells (sA z lv A S n G) 82)).alloc (.cells #[.int .i64 a.1, .int .i64 a.2] 49)) b.1 b.2 49; simpa using this)
  go_enter Tryz.func100, Tryz.ntmps100
  go_wp2
  first | rw [hw0] | skip
  first | rw [hX] | skip
  exact bodyPost_ret (v := .tuple #[.func (.func 135) #[] #[.pointer (some ⟨X, 0, none⟩), .pointer (some ⟨X + 1, 0, none⟩)], .func (.func 136) #[] #[.pointer (some ⟨X, 0, none⟩), .pointer (some ⟨X + 2, 0, none⟩)]]) (by simp [results, Tryz.results100, go_sem]) rfl ⟨X, rfl, D0.out, P0.out, R0.out, by first | exact B0.out | (rw [← hX]; exact B0.out)⟩
set_option maxRecDepth 100000 in
set_option maxHeartbeats 6400000 in
theorem iSpan_any (z lv : Int) (A : SAd) (S : SG) (n : Nat) (f : Q.Tab) (h2 : n ≤ 13) (hbd : Q.Bd n f 10000000) (a b : Y) (ha : Wd n a) (hb : Wd n b) (w : World) (hs : Small S) (hk : 1 ≤ S.B.length) (hW : Wds n S.B) (hS : SegAt w A S) :
    Calls Tryz.prog 59 #[.agg (sA z lv A S n (Q.grid n f)), .agg #[.int .i64 a.1, .int .i64 a.2], .agg #[.int .i64 b.1, .int .i64 b.2]] w fun e w' => e = .returned (.tuple #[.int .i64 (span f S.B a b).1, .int .i64 (span f S.B a b).2]) ∧ Below w.heap.size w w' := by
  have hkm := hs.b
  obtain ⟨m, hm⟩ : ∃ m, S.B.length = m + 1 := ⟨S.B.length - 1, by omega⟩
  obtain ⟨G, hG⟩ : ∃ G, Q.grid n f = G := ⟨_, rfl⟩
  have hGL : G.length = 169 := by rw [← hG]; exact Q.grid_len n f
  have HLA : Hid (∀ v, Calls Tryz.prog 99 #[.agg (sA z lv A S n G)] v fun e w' => e = .returned (.int .i64 (m : Int)) ∧ Below v.heap.size v w') := mkHid fun v => by have := last_any z lv A S n G hGL v hkm; rw [show (S.B.length : Int) - 1 = (m : Int) by omega] at this; exact this
  have HSR : Hid (∀ v, Calls Tryz.prog 100 #[.agg (sA z lv A S n G), .agg #[.int .i64 a.1, .int .i64 a.2], .agg #[.int .i64 b.1, .int .i64 b.2]] v fun e w' => ∃ X, e = .returned (.tuple #[.func (.func 135) #[] #[.pointer (some ⟨X, 0, none⟩), .pointer (some ⟨X + 1, 0, none⟩)], .func (.func 136) #[] #[.pointer (some ⟨X, 0, none⟩), .pointer (some ⟨X + 2, 0, none⟩)]]) ∧ St w' X z lv A S n G ∧ Box w' (X + 1) a.1 a.2 ∧ Box w' (X + 2) b.1 b.2 ∧ Below v.heap.size v w') := mkHid fun v => searches_any z lv A S n G hGL a b v
  have HDN : Hid (∀ (X R at0 : Nat) (v : World), at0 ≤ m → SegAt v A S → St v X z lv A S n G → Box v R a.1 a.2 → Calls Tryz.prog 135 #[.int .i64 at0, .pointer (some ⟨X, 0, none⟩), .pointer (some ⟨R, 0, none⟩)] v fun e w' => e = .returned (.int .i64 (dn (pF f S.B a) at0 : Nat)) ∧ Below v.heap.size v w') := mkHid fun X R at0 v q1 q2 q3 q4 => down_any z lv A S n f h2 hbd a ha X R at0 m v hs hm q1 hW q2 (by rw [hG]; exact q3) q4
  have HUP : Hid (∀ (X R at0 : Nat) (v : World), at0 ≤ m → SegAt v A S → St v X z lv A S n G → Box v R b.1 b.2 → Calls Tryz.prog 136 #[.int .i64 at0, .pointer (some ⟨X, 0, none⟩), .pointer (some ⟨R, 0, none⟩)] v fun e w' => e = .returned (.int .i64 (uq (pT f S.B b) m (m - at0) : Nat)) ∧ Below v.heap.size v w') := mkHid fun X R at0 v q1 q2 q3 q4 => up_any z lv A S n f h2 hbd b hb X R at0 m v hs hm q1 hW q2 (by rw [hG]; exact q3) q4
  rw [hG]
  obtain ⟨w0, hw0⟩ : ∃ q, ((w.alloc (.cells (sA z lv A S n G) 82)).alloc (.cells #[.int .i64 a.1, .int .i64 a.2] 49)).alloc (.cells #[.int .i64 b.1, .int .i64 b.2] 49) = q := ⟨_, rfl⟩
  obtain ⟨X, hX⟩ : ∃ q, w.heap.size = q := ⟨_, rfl⟩
  have B0 : Hid (Below w.heap.size w w0) := mkHid (by rw [← hw0]; exact bl_alloc (bl_alloc (bl_alloc (Below.refl _ _) _) _) _)
  have D0 : Hid (St w0 X z lv A S n G) := mkHid (by rw [← hw0, ← hX]; exact (St.new w z lv A S n hGL 82).below (bl_alloc (bl_alloc (Below.refl _ _) _) _))
  have P0 : Hid (Box w0 (X + 1) a.1 a.2) := mkHid (by rw [← hw0, ← hX]; have := (Box.new' (w.alloc (.cells (sA z lv A S n G) 82)) a.1 a.2 49).below (bl_alloc (Below.refl _ _) (.cells #[.int .i64 b.1, .int .i64 b.2] 49)); simpa using this)
  have R0 : Hid (Box w0 (X + 2) b.1 b.2) := mkHid (by rw [← hw0, ← hX]; have := Box.new' ((w.alloc (.cells (sA z lv A S n G) 82)).alloc (.cells #[.int .i64 a.1, .int .i64 a.2] 49)) b.1 b.2 49; simpa using this)
  have HS := mkHid (hS.below B0.out)
  have HM := mkHid hm
  clear hS hG hs hW hbd ha hb
  by_cases h1 : m = 0
  · subst h1
    rw [span_one hm]
    clear hm hk
    go_enter Tryz.func59, Tryz.ntmps59
    go_wp2_with (first | (refine wp_load82 (by first | exact D0.out | (rw [hw0]; first | rw [hX] | skip; exact D0.out)) rfl rfl rfl ?_) | (go_at_call 99; first | rw [hw0] | skip; refine (HLA.out _).mono ?_; rintro e w1 ⟨rfl, hb1⟩))
    exact bodyPost_ret (v := .tuple #[.int .i64 0, .int .i64 0]) (by simp [results, Tryz.results59, go_sem]) rfl ⟨rfl, below_step B0.out hb1⟩
  · obtain ⟨from', hfr⟩ : ∃ q, spF f S.B a = q := ⟨_, rfl⟩
    have HFR : Hid (dn (pF f S.B a) (m - 1) = from') := mkHid (by rw [← hfr]; unfold spF; rw [hm]; rfl)
    have hfl : from' ≤ m - 1 := by rw [← HFR.out]; exact dn_le _ _
    obtain ⟨to', hto⟩ : ∃ q, spT f S.B a b = q := ⟨_, rfl⟩
    have HTO : Hid (uq (pT f S.B b) m (m - (from' + 1)) = to') := mkHid (by rw [← hto]; unfold spT; rw [hfr, hm]; rfl)
    have hm1 : ((m : Int) == 0) = false := by simpa using h1
    have hw1 : IntKind.i64.wrap ((m : Int) - 1) = ((m - 1 : Nat) : Int) := by rw [IntWalk.i64_in _ ⟨by omega, by omega⟩]; omega
    have hw2 : IntKind.i64.wrap ((from' : Int) + 1) = ((from' + 1 : Nat) : Int) := by rw [IntWalk.i64_in _ ⟨by omega, by omega⟩]; omega
    rw [span_more (by omega), hfr, hto]
    clear hfr hto hm hk
    go_enter Tryz.func59, Tryz.ntmps59
    go_wp2_with (first | (refine wp_load82 (by first | exact D0.out | (rw [hw0]; first | rw [hX] | skip; exact D0.out)) rfl rfl rfl ?_))
    first | rw [hw0] | skip
    refine (HLA.out _).mono ?_
    rintro e w1 ⟨rfl, hb1⟩
    have B1 := mkHid (below_step B0.out hb1)
    have S1 := mkHid (HS.out.below hb1)
    have D1 := mkHid (D0.out.below hb1)
    obtain ⟨p0, p1, _, _⟩ := P0.out.below hb1
    obtain ⟨r0, r1, _, _⟩ := R0.out.below hb1
    clear hb1 hw0 P0 R0
    go_wp2_with (first | (refine wp_load82 (by first | exact D1.out | (rw [hX]; exact D1.out)) rfl rfl rfl ?_))
    refine (HSR.out _).mono ?_
    rintro e w2 ⟨X', rfl, hD', hP', hR', hb2⟩
    have B2 := mkHid (below_step B1.out hb2)
    have S2 := mkHid (S1.out.below hb2)
    have D2 := mkHid (D1.out.below hb2)
    have D2' := mkHid hD'
    have P2' := mkHid hP'
    have R2' := mkHid hR'
    clear hb2 hD' hP' hR' p0 p1 r0 r1 B1 S1 D1
    go_wp2_with (first | (refine wp_load82 (by first | exact D2.out | (rw [hX]; exact D2.out)) rfl rfl rfl ?_))
    refine (HLA.out _).mono ?_
    rintro e w3 ⟨rfl, hb3⟩
    have B3 := mkHid (below_step B2.out hb3)
    have S3 := mkHid (S2.out.below hb3)
    have D3' := mkHid (D2'.out.below hb3)
    have P3' := mkHid (P2'.out.below hb3)
    have R3' := mkHid (R2'.out.below hb3)
    clear hb3 B2 S2 D2 D2' P2' R2'
    go_wp2_with fail
    refine (HDN.out X' (X' + 1) (m - 1) _ (by omega) S3.out D3'.out P3'.out).mono ?_
    rw [HFR.out]
    rintro e w4 ⟨rfl, hb4⟩
    have B4 := mkHid (below_step B3.out hb4)
    have S4 := mkHid (S3.out.below hb4)
    have D4' := mkHid (D3'.out.below hb4)
    have R4' := mkHid (R3'.out.below hb4)
    clear hb4 B3 S3 D3' P3' R3'
    go_wp2_with fail
    refine (HUP.out X' (X' + 2) (from' + 1) _ (by omega) S4.out D4'.out R4'.out).mono ?_
    rw [HTO.out]
    rintro e w5 ⟨rfl, hb5⟩
    have B5 := mkHid (below_step B4.out hb5)
    clear hb5
    go_wp2
    exact bodyPost_ret (v := .tuple #[.int .i64 from', .int .i64 to']) (by simp [results, Tryz.results59, go_sem]) rfl ⟨rfl, B5.out⟩
end Go.Proofs.YtihpajiololfoaaGreat
namespace Go.Proofs.YtihpajiololfoaaGreat
open Go.RowKit

/-- A region of a code, by its number. -/
def findRegion (k : Nat) : Code → Option Code
 | .region id ops d => if id = k then some (.region id ops d) else none
 | .seq a b => match findRegion k a with
  | some c => some c
  | none => findRegion k b
 | .block _ c => findRegion k c
 | .scope c => findRegion k c
 | .loop c => findRegion k c
 | .cond _ a b => match findRegion k a with
  | some c => some c
  | none => findRegion k b
 | _ => none
noncomputable def reg15 : Code := ((Tryz.f35.body.bind (findRegion 15)).getD .skip)
end Go.Proofs.YtihpajiololfoaaGreat
