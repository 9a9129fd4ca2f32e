/-
  CONTRACTS of the specification's l13Facts and l13Sym.
-/
import Derived.Test.YtihpajiololfoaaGreatCc35
namespace Go.Proofs.YtihpajiololfoaaGreat
open Go.RowKit

def zX (z : Int) (l : List Int) : Int := Q.outZ (cF z l) z.toNat
def lX (z : Int) (l : List Int) : List Int := Q.outL (cF z l) z.toNat
def fsB (z : Int) (l : List Int) (size : Int) : Bool := decide (zX z l = size) && decide (0 < size)
theorem fsB_iff {z : Int} {l : List Int} {size : Int} : fsB z l size = true ↔ FS z l size := by
  unfold fsB zX FS
  rw [Bool.and_eq_true, decide_eq_true_eq, decide_eq_true_eq]
  constructor
  · rintro ⟨h1, h2⟩
    cases hc : cF z l with
    | none => rw [hc] at h1; simp [Q.outZ] at h1; omega
    | some f =>
      obtain ⟨n, q0, q1, q2⟩ := cF_size hc
      rw [hc] at h1
      simp [Q.outZ] at h1
      exact ⟨f, rfl, by omega⟩
  · rintro ⟨f, hf, e⟩
    obtain ⟨n, q0, q1, q2⟩ := cF_size hf
    rw [hf]
    simp [Q.outZ]
    omega
theorem x_some {z : Int} {l : List Int} {n : Nat} {f : Q.Tab} (h : cF z l = some f) (hz : z = n) : zX z l = n ∧ lX z l = Q.mk n f := by
  unfold zX lX
  rw [h, hz, Int.toNat_natCast]
  exact ⟨rfl, rfl⟩
set_option maxRecDepth 100000 in
set_option maxHeartbeats 3200000 in
theorem l13Facts_any (size z : Int) (l : List Int) (a : Option Addr) (c : Nat) (w : World) (hl : Q.IntsAt w a l) :
    Calls Tryz.prog 34 #[.int .i64 size, .agg #[.int .i64 z, .slice a l.length c]] w fun e w' => ∃ ao cap, e = .returned (.tuple #[.agg #[.int .i64 (zX z l), .slice ao (lX z l).length cap], .bool (fsB z l size)]) ∧ Q.IntsAt w' ao (lX z l) ∧ Below w.heap.size w w' := by
  have HC : Hid (∀ v, Q.IntsAt v a l → Calls Tryz.prog 75 #[.agg #[.int .i64 z, .slice a l.length c]] v fun e w' => Q.Gives v w' e (zX z l) (lX z l)) := mkHid fun v h => Q.sClose_any z l a c v h
  obtain ⟨zx, hzx⟩ : ∃ q, zX z l = q := ⟨_, rfl⟩
  obtain ⟨lx, hlx⟩ : ∃ q, lX z l = q := ⟨_, rfl⟩
  have hfs : fsB z l size = (decide (zx = size) && decide (0 < size)) := by unfold fsB; rw [hzx]
  rw [hzx, hlx]
  rw [hzx, hlx] at HC
  obtain ⟨fb, hfb⟩ : ∃ q, fsB z l size = q := ⟨_, rfl⟩
  have HFB : Hid ((decide (zx = size) && decide (0 < size)) = fb) := mkHid (hfs.symm.trans hfb)
  rw [hfb]
  obtain ⟨w0, hw0⟩ : ∃ q, (w.alloc (.cells #[.int .i64 z, .slice a l.length c] 38)).alloc (.cells #[.int .i64 0, .slice none 0 0] 38) = q := ⟨_, rfl⟩
  obtain ⟨X, hX⟩ : ∃ q, w.heap.size = q := ⟨_, rfl⟩
  have B0 : Hid (Below w.heap.size w w0) := mkHid (by rw [← hw0]; exact bl_alloc (bl_alloc (Below.refl _ _) _) _)
  have T0 : Hid (Q.Fc w0 X z a l.length c) := mkHid (by rw [← hw0, ← hX]; exact (Q.Fc.new w z a l.length c 38).below (bl_alloc (Below.refl _ _) _))
  have Z0 : Hid (Q.Fz w0 (X + 1)) := mkHid (by rw [← hw0, ← hX]; have := Q.Fz.new (w.alloc (.cells #[.int .i64 z, .slice a l.length c] 38)); simpa using this)
  have HL := mkHid (hl.below B0.out)
  obtain ⟨t0, t1⟩ := T0.out
  have hwX : Hid (w.heap.size ≤ X + 1) := mkHid (by omega)
  clear hl hfs hzx hlx hfb
  go_enter Tryz.func34, Tryz.ntmps34
  go_wp2_with fail
  first | rw [hw0] | skip
  refine (HC.out _ HL.out).mono ?_
  rintro e w1 ⟨ao, cap, rfl, hO, hb⟩
  have HO := mkHid hO
  have B1 := mkHid (below_step B0.out hb)
  obtain ⟨⟨z0, z1⟩, z2, z3⟩ := Z0.out.below hb
  have hXlt : X + 1 < w0.heap.size := Z0.out.lt
  have HOB : Hid (∀ q, Value.ownBlock (.slice ao lx.length cap) = some q → X + 1 ≠ q) := mkHid (fun q hq => by have := (hO.lt hq).1; omega)
  obtain ⟨P, hP⟩ : ∃ q, w1.heap.size = q := ⟨_, rfl⟩
  obtain ⟨w2, hw2⟩ : ∃ q, w1.alloc (.cells #[.int .i64 zx, .slice ao lx.length cap] 38) = q := ⟨_, rfl⟩
  have A2 : Below w1.heap.size w1 w2 := by rw [← hw2]; exact bl_alloc (Below.refl _ _) _
  have E2 : Hid (Q.Fc w2 P zx ao lx.length cap) := mkHid (by rw [← hw2, ← hP]; exact Q.Fc.new _ _ _ _ _ 38)
  have HO2 := mkHid (hO.below A2)
  have B2 := mkHid (below_step B1.out A2)
  obtain ⟨⟨y0, y1⟩, y2, y3⟩ := (Z0.out.below hb).below A2
  obtain ⟨e0, e1⟩ := E2.out
  have hne : X + 1 ≠ P := by have := hb.size; omega
  have H3 := mkHid (fun (u v : Value) => ((HO2.out.grown (Q.grown_setCell w2 ⟨X + 1, 0, none⟩ u) (fun q hq e => HOB.out q hq (Option.some.inj e))).grown (Q.grown_setCell _ ⟨X + 1, 1, none⟩ v) (fun q hq e => HOB.out q hq (Option.some.inj e))).at)
  have H4 := mkHid (fun (u v : Value) => (B2.out.setCell (p := ⟨X + 1, 0, none⟩) hwX.out u).setCell (p := ⟨X + 1, 1, none⟩) hwX.out v)
  clear hO hb t0 t1 z0 z1 z2 z3 hw0 HO B1 A2 E2 HO2
  by_cases h1 : zx = size
  · by_cases h2 : 0 < size
    · have d1 : (zx == size) = true := by simpa using h1
      have ED : Hid ((decide (zx = size) && decide (0 < size)) = true) := mkHid (by simp [h1, h2])
      clear h1
      go_wp2_with fail
      all_goals (first | rw [hw2] | skip)
      all_goals (first | rw [hP] | skip)
      all_goals clear hw2 hP
      go_wp2
      exact bodyPost_ret (v := .tuple #[.agg #[.int .i64 zx, .slice ao lx.length cap], .bool true]) (by simp [results, Tryz.results34, go_sem, *]) rfl ⟨ao, cap, by rw [← HFB.out, ED.out], H3.out _ _, H4.out _ _⟩
    · have d1 : (zx == size) = true := by simpa using h1
      have ED : Hid ((decide (zx = size) && decide (0 < size)) = false) := mkHid (by simp [h2])
      clear h1
      go_wp2_with fail
      all_goals (first | rw [hw2] | skip)
      all_goals (first | rw [hP] | skip)
      all_goals clear hw2 hP
      go_wp2
      exact bodyPost_ret (v := .tuple #[.agg #[.int .i64 zx, .slice ao lx.length cap], .bool false]) (by simp [results, Tryz.results34, go_sem, *]) rfl ⟨ao, cap, by rw [← HFB.out, ED.out], H3.out _ _, H4.out _ _⟩
  · have d1 : (zx == size) = false := by simpa using h1
    have ED : Hid ((decide (zx = size) && decide (0 < size)) = false) := mkHid (by simp [h1])
    clear h1
    go_wp2_with fail
    all_goals (first | rw [hw2] | skip)
    all_goals (first | rw [hP] | skip)
    all_goals clear hw2 hP
    go_wp2
    exact bodyPost_ret (v := .tuple #[.agg #[.int .i64 zx, .slice ao lx.length cap], .bool false]) (by simp [results, Tryz.results34, go_sem, *]) rfl ⟨ao, cap, by rw [← HFB.out, ED.out], H3.out _ _, H4.out _ _⟩
set_option maxRecDepth 100000 in
set_option maxHeartbeats 1600000 in
theorem l13Sym_any (n : Nat) (hn : n ≤ 1000000) (x : Y) (w : World) : Calls Tryz.prog 57 #[.int .i64 n, .agg #[.int .i64 x.1, .int .i64 x.2]] w fun e w' => e = .returned (.bool (Q.symB x.1 n && Q.offB x.2)) ∧ Below w.heap.size w w' := by
  obtain ⟨v, c⟩ := x
  have B0 := mkHid (bl_alloc (Below.refl w.heap.size w) (.cells #[.int .i64 v, .int .i64 c] 49))
  obtain ⟨k, hk⟩ : ∃ k : Int, (n : Int) - 1 = k := ⟨_, rfl⟩
  have hwk : IntKind.i64.wrap ((n : Int) - 1) = k := by rw [← hk]; exact IntWalk.i64_in _ (by omega)
  have hbi := Q.btw_sym' v hk
  clear hk hn
  show Calls _ _ _ _ fun e w' => e = .returned (.bool (Q.symB v n && Q.offB c)) ∧ _
  cases hv : Q.symB v n
  · rw [hv] at hbi
    go_enter Tryz.func57, Tryz.ntmps57
    go_wp2_with (first | (go_at_call 95; refine (Q.between_any _ _ _ _).mono ?_; rintro e w' ⟨rfl, rfl⟩))
    go_ret
    exact ⟨rfl, B0.out⟩
  · rw [hv] at hbi
    go_enter Tryz.func57, Tryz.ntmps57
    go_wp2_with (first | (go_at_call 95; refine (Q.between_any _ _ _ _).mono ?_; rintro e w' ⟨rfl, rfl⟩) | (go_at_call 96; refine (Q.sOff_any _ _).mono ?_; rintro e w' ⟨rfl, rfl⟩))
    go_ret
    exact ⟨rfl, B0.out⟩
end Go.Proofs.YtihpajiololfoaaGreat
