/-
  CONTRACT of the specification's l01Digits.
  THE TEXT OF AN EXPRESSION, as a plain function; what a formed one looks like; how long its text is.
  CONTRACTS of the specification's l02Tight, l02Paren, l02Expr.
-/
import Derived.Test.YtedfnadgmhjojaaGreatDoorMFormb
import Derived.Test.YtedfnadgmhjojaaGreatDoorMScan
import Derived.Test.YtedfnadgmhjojaaGreatDoorMOk
namespace Go.Proofs.YtedfnadgmhjojaaGreatDoor
open Go.RowKit

def dec (n : Nat) : ByteArray := ⟨(Lib.decDigits n).toArray⟩
theorem dec_small {n : Nat} (h : n < 10) : dec n = ⟨#[UInt8.ofNat (48 + n)]⟩ := by
 unfold dec
 rw [Lib.decDigits, dif_pos h]
theorem dec_more {n : Nat} (h : ¬ n < 10) : dec n = dec (n / 10) ++ ⟨#[UInt8.ofNat (48 + n % 10)]⟩ := by
 unfold dec
 conv => lhs; rw [Lib.decDigits, dif_neg h]
 apply ByteArray.ext
 simp

theorem dec_size (n : Nat) : (dec n).size ≤ n + 1 := by
 induction n using Nat.strongRecOn with
 | ind n ih =>
   by_cases h : n < 10
   ·rw [dec_small h]
    exact Nat.succ_le_succ (Nat.zero_le _)
   ·rw [dec_more h, ByteArray.size_append]
    have := ih (n / 10) (by omega)
    have e : (ByteArray.mk #[UInt8.ofNat (48 + n % 10)]).size = 1 := rfl
    omega

/-- One byte of a digit, as a string. -/
theorem conv_one (d b : Nat) (w : World) (hd : d < 10) (hc : w.cell? ⟨b, 0, none⟩ = some (.int .u8 (48 + (d : Int)))) :
    Sem.run Tryz.prog (convert 35 9 (.slice (some ⟨b, 0, none⟩) 1 1)) w = .ok (.string ⟨#[UInt8.ofNat (48 + d)]⟩) w := by
 refine run_convert_bytes_back (P := Tryz.prog) w 35 9 5 ⟨b, 0, none⟩ 1 [UInt8.ofNat (48 + d)] Tryz.underlying35 Tryz.underlying5 Tryz.underlying9 (fun i hi => ?_)
 have e : i = 0 := by simpa using hi
 subst e
 rw [WideShapes.add_plain]
 have h : (UInt8.ofNat (48 + d)).toNat = 48 + d := by
  rw [UInt8.toNat_ofNat']
  omega
 simp only [List.getElem_cons_zero, h]
 rw [hc]
 rfl

set_option maxRecDepth 100000 in
set_option maxHeartbeats 1600000 in
theorem digits_any : ∀ (n : Nat) (w : World), n ≤ 1000000 → Calls Tryz.prog 11 #[.int .i64 n] w fun e w' => e = .returned (.string (dec n)) ∧ Below w.heap.size w w' := by
 intro n
 induction n using Nat.strongRecOn with
 | ind n ih =>
   intro w hn
   have h0 : (0 : Int) ≤ (n : Int) := by omega
   by_cases h : n < 10
   ·clear ih
    have hconv := conv_one n w.heap.size (w.alloc (.cells #[.int .u8 (48 + (n : Int))] 5)) h (by simp [go_sem])
    rw [dec_small h]
    generalize UInt8.ofNat (48 + n) = x at hconv ⊢
    go_enter Tryz.func11, Tryz.ntmps11
    go_wp2
    go_ret
    exact ⟨rfl, (Below.refl _ _).alloc (Nat.le_refl _) _⟩
   ·have h1 : (10 : Int) ≤ (n : Int) := by omega
    have HD := mkHid (dec_more h)
    obtain ⟨q, hq⟩ : ∃ q, q = n / 10 := ⟨_, rfl⟩
    obtain ⟨r, hr⟩ : ∃ r, r = n % 10 := ⟨_, rfl⟩
    rw [← hq, ← hr] at HD
    have hq' : Int.tdiv (n : Int) 10 = (q : Int) := by rw [Int.tdiv_eq_ediv_of_nonneg h0]; omega
    have hr' : Int.tmod (n : Int) 10 = (r : Int) := by rw [Int.tmod_eq_emod_of_nonneg h0]; omega
    have hr9 : (r : Int) < 10 := by omega
    have hr0 : (0 : Int) ≤ (r : Int) := by omega
    have HI := mkHid (fun W => ih q (by omega) W (by omega))
    have hconv := fun b W => conv_one r b W (by omega)
    generalize UInt8.ofNat (48 + r) = x at hconv HD
    have wq : IntKind.i64.wrap (q : Int) = (q : Int) := by rw [IntKind.wrap_i64]; omega
    have wr : IntKind.i64.wrap (r : Int) = (r : Int) := by rw [IntKind.wrap_i64]; omega
    have ws : IntKind.i64.wrap (48 + (r : Int)) = 48 + (r : Int) := by rw [IntKind.wrap_i64]; omega
    have wu : IntKind.u8.wrap (48 + (r : Int)) = 48 + (r : Int) := by rw [IntKind.wrap_u8]; omega
    have hds := dec_size q
    have hqs : (dec q).size ≤ 1000001 := by omega
    clear ih hq hr hds
    go_enter Tryz.func11, Tryz.ntmps11
    go_wp2_with fail
    go_region_with (first | (go_at_call 11; refine (HI.out _).mono ?_; rintro e w1 ⟨rfl, hb1⟩; obtain ⟨hc, hf⟩ := bcell hb1))
    all_goals clear hc hf
    all_goals go_wp2
    all_goals go_ret
    all_goals refine ⟨by rw [HD.out]; rfl, ?_⟩
    all_goals first | exact (below_step (Below.refl w.heap.size w).drew hb1).alloc (hb1.size) _ | exact below_step (((Below.refl w.heap.size w).alloc (Nat.le_refl _) _).drew) hb1
end Go.Proofs.YtedfnadgmhjojaaGreatDoor
namespace Go.Proofs.YtedfnadgmhjojaaGreatDoor
open Go.RowKit
open Pl

def tightI (k : Int) : Int := if k = 6 ∨ k = 7 then 1 else if k = 8 then 2 else 3
def par (k : Int) (s : ByteArray) (least : Int) : ByteArray := if tightI k < least then ⟨#[40]⟩ ++ s ++ ⟨#[41]⟩ else s
def lay (k : Int) (s : ByteArray) (m : Int) (ka : Int) (a : ByteArray) (kb : Int) (b : ByteArray) : ByteArray :=
 if k = 1 then dec m.toNat else
 if k = 2 then s else
 if k = 3 then s ++ ⟨#[91]⟩ ++ a ++ ⟨#[93]⟩ else
 if k = 4 then ⟨#[108, 101, 110, 40]⟩ ++ s ++ ⟨#[41]⟩ else
 if k = 5 then ⟨#[45]⟩ ++ par ka a 3 else
 if k = 6 then par ka a 1 ++ ⟨#[32, 43, 32]⟩ ++ par kb b 2 else
 if k = 7 then par ka a 1 ++ ⟨#[32, 45, 32]⟩ ++ par kb b 2 else
 if k = 8 then par ka a 2 ++ ⟨#[32, 42, 32]⟩ ++ par kb b 3 else
 a ++ ⟨#[32]⟩ ++ signI k ++ ⟨#[32]⟩ ++ b
def none2 : Int × ByteArray := (0, ⟨#[]⟩)
mutual
def exS : T → ByteArray
 | .node k s m kk => lay k s m ((exSs kk)[0]?.getD none2).1 ((exSs kk)[0]?.getD none2).2 ((exSs kk)[1]?.getD none2).1 ((exSs kk)[1]?.getD none2).2
def exSs : List T → List (Int × ByteArray)
 | [] => []
 | t :: r => (kindT t, exS t) :: exSs r
end
theorem exS0 (k m : Int) (s : ByteArray) : exS (.node k s m []) = lay k s m 0 ⟨#[]⟩ 0 ⟨#[]⟩ := by simp [exS, exSs, none2]
theorem exS1 (k m : Int) (s : ByteArray) (x : T) : exS (.node k s m [x]) = lay k s m (kindT x) (exS x) 0 ⟨#[]⟩ := by simp [exS, exSs, none2]
theorem exS2 (k m : Int) (s : ByteArray) (x y : T) : exS (.node k s m [x, y]) = lay k s m (kindT x) (exS x) (kindT y) (exS y) := by simp [exS, exSs]

/-- A formed expression. -/
def Good1 (t : T) : Prop := formedT t = true ∧ 1 ≤ kindT t ∧ kindT t ≤ 8
def Good (t : T) : Prop := formedT t = true ∧ (1 ≤ kindT t ∧ kindT t ≤ 8 ∨ 11 ≤ kindT t ∧ kindT t ≤ 16)
theorem Good1.good {t : T} (h : Good1 t) : Good t := ⟨h.1, .inl h.2⟩

theorem formed_parts {k m : Int} {s : ByteArray} {kk : List T} (h : formedT (.node k s m kk) = true) : formHead k s kk.length = true ∧ numOk k m = true ∧ ∀ (j : Nat) (t : T), kk[j]? = some t → (kidI k kk.length j (kindT t) && formedT t) = true := by
 rw [show formedT (.node k s m kk) = (formHead k s kk.length && numOk k m && formedL k kk.length 0 kk) by simp only [formedT]] at h
 simp only [Bool.and_eq_true] at h
 obtain ⟨⟨h1, h2⟩, h3⟩ := h
 exact ⟨h1, h2, fun j t ht => by have := (formedL_iff _ _ _ _).1 h3 j t ht; rwa [Nat.zero_add] at this⟩
theorem nameB_le (s : ByteArray) (h : nameB s = true) : s.size ≤ 8 := by
 have hp : nameP s := by simpa [nameB] using h
 exact hp.2.1
theorem head_size {k : Int} {s : ByteArray} {n : Nat} (h : formHead k s n = true) : s.size ≤ 8 := by
 unfold formHead at h
 generalize shapeI k = sh at h
 obtain ⟨ks, nm, sm⟩ := sh
 simp at h
 cases nm with
 | true => exact nameB_le s (by simpa using h.1.2)
 | false =>
   have := h.1.1.2
   simp at this
   rw [this]
   exact Nat.zero_le _

inductive Shp (k m : Int) (kk : List T) : Prop
 | num (h : k = 1) (hk : kk = []) (h0 : 0 ≤ m) (h1 : m ≤ 1000000)
 | var (h : k = 2) (hk : kk = [])
 | len (h : k = 4) (hk : kk = [])
 | cell (h : k = 3) (x : T) (hk : kk = [x]) (hx : Good1 x)
 | neg (h : k = 5) (x : T) (hk : kk = [x]) (hx : Good1 x)
 | pair (h : k = 6 ∨ k = 7 ∨ k = 8) (x y : T) (hk : kk = [x, y]) (hx : Good1 x) (hy : Good1 y)
 | cond (h : 11 ≤ k ∧ k ≤ 16) (x y : T) (hk : kk = [x, y]) (hx : Good1 x) (hy : Good1 y)
theorem betw_iff {x lo hi : Int} (h : betw x lo hi = true) : lo ≤ x ∧ x ≤ hi := by simpa [betw] using h

theorem good_shape {k m : Int} {s : ByteArray} {kk : List T} (h : Good (.node k s m kk)) : s.size ≤ 8 ∧ Shp k m kk := by
 obtain ⟨h1, h2⟩ := h
 obtain ⟨hh, hn, hk⟩ := formed_parts h1
 refine ⟨head_size hh, ?_⟩
 have h2' : 1 ≤ k ∧ k ≤ 8 ∨ 11 ≤ k ∧ k ≤ 16 := h2
 have kid : ∀ (j : Nat) (t : T), kk[j]? = some t → (k ≠ 24 ∧ k ≠ 25 ∧ k ≠ 27 ∧ k ≠ 26 ∧ k ≠ 30 ∧ k ≠ 40) → Good1 t := by
  rintro j t ht ⟨a1, a2, a3, a4, a5, a6⟩
  have := hk j t ht
  rw [show kidI k kk.length j (kindT t) = betw (kindT t) 1 8 by simp [kidI, a1, a2, a3, a4, a5, a6]] at this
  simp only [Bool.and_eq_true] at this
  exact ⟨this.2, betw_iff this.1⟩
 have none : k ≠ 24 ∧ k ≠ 25 ∧ k ≠ 27 ∧ k ≠ 26 ∧ k ≠ 30 ∧ k ≠ 40 := by omega
 have ar : ∀ (n : Int) (b : Bool), shapeI k = (n, b, true) → 0 ≤ n → (kk.length : Int) = n := by
  intro n b e h0
  unfold formHead at hh
  rw [e] at hh
  simp at hh
  omega
 have one : kk.length = 1 → ∃ x, kk = [x] ∧ Good1 x := fun e => by
  obtain ⟨x, hx⟩ := List.length_eq_one_iff.1 e
  exact ⟨x, hx, kid 0 x (by rw [hx]; rfl) none⟩
 have two : kk.length = 2 → ∃ x y, kk = [x, y] ∧ Good1 x ∧ Good1 y := fun e => by
  obtain ⟨x, y, hx⟩ : ∃ x y, kk = [x, y] := by
   match kk, e with
   | [x, y], _ => exact ⟨x, y, rfl⟩
  exact ⟨x, y, hx, kid 0 x (by rw [hx]; rfl) none, kid 1 y (by rw [hx]; rfl) none⟩
 by_cases e1 : k = 1
 ·have hl := ar 0 false (by rw [e1]; rfl) (by decide)
  rw [show numOk k m = betw m 0 1000000 by simp [numOk, e1]] at hn
  exact .num e1 (List.length_eq_zero_iff.1 (by omega)) (betw_iff hn).1 (betw_iff hn).2
 by_cases e2 : k = 2
 ·have hl := ar 0 true (by rw [e2]; rfl) (by decide)
  exact .var e2 (List.length_eq_zero_iff.1 (by omega))
 by_cases e4 : k = 4
 ·have hl := ar 0 true (by rw [e4]; rfl) (by decide)
  exact .len e4 (List.length_eq_zero_iff.1 (by omega))
 by_cases e3 : k = 3
 ·have hl := ar 1 true (by rw [e3]; rfl) (by decide)
  obtain ⟨x, hx, gx⟩ := one (by omega)
  exact .cell e3 x hx gx
 by_cases e5 : k = 5
 ·have hl := ar 1 false (by rw [e5]; rfl) (by decide)
  obtain ⟨x, hx, gx⟩ := one (by omega)
  exact .neg e5 x hx gx
 by_cases e6 : k = 6
 ·have hl := ar 2 false (by rw [e6]; rfl) (by decide)
  obtain ⟨x, y, hx, gx, gy⟩ := two (by omega)
  exact .pair (by omega) x y hx gx gy
 by_cases e7 : k = 7
 ·have hl := ar 2 false (by rw [e7]; rfl) (by decide)
  obtain ⟨x, y, hx, gx, gy⟩ := two (by omega)
  exact .pair (by omega) x y hx gx gy
 by_cases e8 : k = 8
 ·have hl := ar 2 false (by rw [e8]; rfl) (by decide)
  obtain ⟨x, y, hx, gx, gy⟩ := two (by omega)
  exact .pair (by omega) x y hx gx gy
 ·have hk' : k = 11 ∨ k = 12 ∨ k = 13 ∨ k = 14 ∨ k = 15 ∨ k = 16 := by omega
  have hs : shapeI k = (2, false, true) := by rcases hk' with rfl | rfl | rfl | rfl | rfl | rfl <;> rfl
  have hl := ar 2 false hs (by decide)
  obtain ⟨x, y, hx, gx, gy⟩ := two (by omega)
  exact .cond (by omega) x y hx gx gy

theorem par_size (k : Int) (s : ByteArray) (l : Int) : (par k s l).size ≤ s.size + 2 := by
 unfold par
 split
 ·rw [ByteArray.size_append, ByteArray.size_append]
  have e1 : (ByteArray.mk #[40]).size = 1 := rfl
  have e2 : (ByteArray.mk #[41]).size = 1 := rfl
  omega
 ·omega
theorem sign_size (k : Int) : (signI k).size ≤ 2 := by
 unfold signI
 repeat' split
 all_goals decide
theorem lay_size (k m : Int) (s : ByteArray) (ka : Int) (a : ByteArray) (kb : Int) (b : ByteArray) (hs : s.size ≤ 8) (hm : m ≤ 1000000) : (lay k s m ka a kb b).size ≤ 2000000 + a.size + b.size := by
 have d := dec_size m.toNat
 have p1 := par_size ka a 1
 have p2 := par_size ka a 2
 have p3 := par_size ka a 3
 have q2 := par_size kb b 2
 have q3 := par_size kb b 3
 have sg := sign_size k
 unfold lay
 repeat' split
 all_goals try simp only [ByteArray.size_append]
 all_goals try simp only [show (ByteArray.mk #[91]).size = 1 from rfl, show (ByteArray.mk #[93]).size = 1 from rfl, show (ByteArray.mk #[41]).size = 1 from rfl, show (ByteArray.mk #[45]).size = 1 from rfl, show (ByteArray.mk #[32]).size = 1 from rfl, show (ByteArray.mk #[108, 101, 110, 40]).size = 4 from rfl, show (ByteArray.mk #[32, 43, 32]).size = 3 from rfl, show (ByteArray.mk #[32, 45, 32]).size = 3 from rfl, show (ByteArray.mk #[32, 42, 32]).size = 3 from rfl]
 all_goals omega
theorem exS_size (t : T) : Good t → (exS t).size ≤ 2000000 * cnt t := by
 refine T.induct (P := fun t => Good t → (exS t).size ≤ 2000000 * cnt t) ?_ t
 intro k s m kk IH hg
 obtain ⟨hs, sh⟩ := good_shape hg
 have hm : m ≤ 1000000 := by
  have := (formed_parts hg.1).2.1
  unfold numOk at this
  split at this
  ·exact (betw_iff this).2
  ·split at this
   ·exact (betw_iff this).2
   ·simp at this
    omega
 have z : (ByteArray.mk #[]).size = 0 := rfl
 have L := fun ka a kb b => lay_size k m s ka a kb b hs hm
 cases sh with
 | num h hk h0 h1 => subst hk; rw [exS0]; have := L 0 ⟨#[]⟩ 0 ⟨#[]⟩; simp only [cnt, cnts]; omega
 | var h hk => subst hk; rw [exS0]; have := L 0 ⟨#[]⟩ 0 ⟨#[]⟩; simp only [cnt, cnts]; omega
 | len h hk => subst hk; rw [exS0]; have := L 0 ⟨#[]⟩ 0 ⟨#[]⟩; simp only [cnt, cnts]; omega
 | cell h x hk hx => subst hk; rw [exS1]; have := L (kindT x) (exS x) 0 ⟨#[]⟩; have := IH x (by simp) hx.good; simp only [cnt, cnts]; omega
 | neg h x hk hx => subst hk; rw [exS1]; have := L (kindT x) (exS x) 0 ⟨#[]⟩; have := IH x (by simp) hx.good; simp only [cnt, cnts]; omega
 | pair h x y hk hx hy => subst hk; rw [exS2]; have := L (kindT x) (exS x) (kindT y) (exS y); have := IH x (by simp) hx.good; have := IH y (by simp) hy.good; simp only [cnt, cnts]; omega
 | cond h x y hk hx hy => subst hk; rw [exS2]; have := L (kindT x) (exS x) (kindT y) (exS y); have := IH x (by simp) hx.good; have := IH y (by simp) hy.good; simp only [cnt, cnts]; omega
end Go.Proofs.YtedfnadgmhjojaaGreatDoor
namespace Go.Proofs.YtedfnadgmhjojaaGreatDoor
open Go.RowKit
open Pl

set_option maxRecDepth 100000 in
set_option maxHeartbeats 800000 in
theorem tight_any (k : Int) (w : World) : Calls Tryz.prog 82 #[.int .i64 k] w fun e w' => e = .returned (.int .i64 (tightI k)) ∧ w = w' := by
 by_cases h6 : k = 6
 ·subst h6
  go_enter Tryz.func82, Tryz.ntmps82
  go_wp2
  go_ret
  exact ⟨rfl, rfl⟩
 by_cases h7 : k = 7
 ·subst h7
  go_enter Tryz.func82, Tryz.ntmps82
  go_wp2
  go_ret
  exact ⟨rfl, rfl⟩
 by_cases h8 : k = 8
 ·subst h8
  go_enter Tryz.func82, Tryz.ntmps82
  go_wp2
  go_ret
  exact ⟨rfl, rfl⟩
 rw [show tightI k = 3 by simp [tightI, h6, h7, h8]]
 go_enter Tryz.func82, Tryz.ntmps82
 go_wp2
 go_ret
 exact ⟨rfl, rfl⟩

def SEx (t : T) : Prop := match t with
 | .node k s m kk => ∀ (a : Option Addr) (c : Nat) (w : World), Good t → cnt t ≤ 500 → Kids w 0 a kk →
   Calls Tryz.prog 43 #[.agg #[.int .i64 k, .string s, .int .i64 m, .slice a kk.length c]] w fun e w' => e = .returned (.string (exS t)) ∧ Below w.heap.size w w'

set_option maxRecDepth 100000 in
set_option maxHeartbeats 1600000 in
theorem paren_of (k m : Int) (s : ByteArray) (kk : List T) (IH : SEx (.node k s m kk)) (a : Option Addr) (c : Nat) (l : Int) (w : World) (hg : Good (.node k s m kk)) (hc : cnt (.node k s m kk) ≤ 500) (hk : Kids w 0 a kk) :
    Calls Tryz.prog 61 #[.agg #[.int .i64 k, .string s, .int .i64 m, .slice a kk.length c], .int .i64 l] w fun e w' => e = .returned (.string (par k (exS (.node k s m kk)) l)) ∧ Below w.heap.size w w' := by
 have hsz := exS_size _ hg
 have HI := mkHid (fun W (hW : Below w.heap.size w W) => IH a c W hg hc (hk.below hW))
 have B0 := mkHid ((Below.refl w.heap.size w).alloc (Nat.le_refl _) (.cells #[.int .i64 k, .string s, .int .i64 m, .slice a kk.length c] 38))
 have HT := mkHid (fun W => tight_any k W)
 have HP := mkHid (show par k (exS (.node k s m kk)) l = if tightI k < l then ⟨#[40]⟩ ++ exS (.node k s m kk) ++ ⟨#[41]⟩ else exS (.node k s m kk) from rfl)
 have hA : (exS (.node k s m kk)).size ≤ 1000000000 := by omega
 generalize par k (exS (.node k s m kk)) l = P at HP ⊢
 generalize exS (.node k s m kk) = A at HI HP hA
 generalize tightI k = tk at HT HP
 clear hg hc hk IH hsz
 have h1 : ((ByteArray.mk #[40]) ++ A).size = 1 + A.size := by rw [ByteArray.size_append]; rfl
 go_enter Tryz.func61, Tryz.ntmps61
 go_wp2_with fail
 refine (HT.out _).mono ?_
 rintro e w1 ⟨rfl, rfl⟩
 by_cases h : tk < l
 ·have HG : Hid (P = ⟨#[40]⟩ ++ A ++ ⟨#[41]⟩) := mkHid (by rw [HP.out, if_pos h])
  go_wp2_with fail
  refine (HI.out _ B0.out).mono ?_
  rintro e w2 ⟨rfl, hb2⟩
  have B2 := mkHid (below_step B0.out hb2)
  clear hb2
  go_wp2
  go_ret
  exact ⟨by rw [HG.out]; rfl, B2.out⟩
 ·have HG : Hid (P = A) := mkHid (by rw [HP.out, if_neg h])
  go_wp2_with fail
  refine (HI.out _ B0.out).mono ?_
  rintro e w2 ⟨rfl, hb2⟩
  have B2 := mkHid (below_step B0.out hb2)
  clear hb2
  go_wp2
  go_ret
  exact ⟨by rw [HG.out]; rfl, B2.out⟩

set_option maxRecDepth 100000 in
set_option maxHeartbeats 1600000 in
theorem sEx_num (s : ByteArray) (n : Nat) (hn : n ≤ 1000000) : SEx (.node 1 s n []) := by
 intro a c w hg hc hk
 obtain ⟨hs, _⟩ := good_shape hg
 rw [exS0, show lay 1 s n 0 ⟨#[]⟩ 0 ⟨#[]⟩ = dec n by simp [lay]]
 have B0 := mkHid ((Below.refl w.heap.size w).alloc (Nat.le_refl _) (.cells #[.int .i64 1, .string s, .int .i64 n, .slice a 0 c] 38))
 have F0 := mkHid (Four.new w 1 s n a 0 c 38)
 have HD := mkHid (fun W => digits_any n W hn)
 clear hg hc hk hs
 show Calls Tryz.prog 43 #[.agg #[.int .i64 1, .string s, .int .i64 n, .slice a 0 c]] w _
 go_enter Tryz.func43, Tryz.ntmps43
 go_wp2_with fail
 refine (HD.out _).mono ?_
 rintro e w2 ⟨rfl, hb2⟩
 have B2 := mkHid (below_step B0.out hb2)
 clear hb2
 go_wp2
 go_ret
 exact ⟨rfl, B2.out⟩

set_option maxRecDepth 100000 in
set_option maxHeartbeats 1600000 in
theorem sEx_var (s : ByteArray) (m : Int) : SEx (.node 2 s m []) := by
 intro a c w hg hc hk
 obtain ⟨hs, _⟩ := good_shape hg
 rw [exS0, show lay 2 s m 0 ⟨#[]⟩ 0 ⟨#[]⟩ = s by simp [lay]]
 have B0 := mkHid ((Below.refl w.heap.size w).alloc (Nat.le_refl _) (.cells #[.int .i64 2, .string s, .int .i64 m, .slice a 0 c] 38))
 have F0 := mkHid (Four.new w 2 s m a 0 c 38)
 clear hg hc hk
 show Calls Tryz.prog 43 #[.agg #[.int .i64 2, .string s, .int .i64 m, .slice a 0 c]] w _
 go_enter Tryz.func43, Tryz.ntmps43
 go_wp2
 go_ret
 exact ⟨rfl, B0.out⟩

set_option maxRecDepth 100000 in
set_option maxHeartbeats 1600000 in
theorem sEx_len (s : ByteArray) (m : Int) : SEx (.node 4 s m []) := by
 intro a c w hg hc hk
 obtain ⟨hs, _⟩ := good_shape hg
 rw [exS0, show lay 4 s m 0 ⟨#[]⟩ 0 ⟨#[]⟩ = ⟨#[108, 101, 110, 40]⟩ ++ s ++ ⟨#[41]⟩ by simp [lay]]
 have B0 := mkHid ((Below.refl w.heap.size w).alloc (Nat.le_refl _) (.cells #[.int .i64 4, .string s, .int .i64 m, .slice a 0 c] 38))
 have F0 := mkHid (Four.new w 4 s m a 0 c 38)
 have h1 : ((ByteArray.mk #[108, 101, 110, 40]) ++ s).size = 4 + s.size := by rw [ByteArray.size_append]; rfl
 clear hg hc hk
 show Calls Tryz.prog 43 #[.agg #[.int .i64 4, .string s, .int .i64 m, .slice a 0 c]] w _
 go_enter Tryz.func43, Tryz.ntmps43
 go_wp2
 go_ret
 exact ⟨rfl, B0.out⟩

set_option maxRecDepth 100000 in
set_option maxHeartbeats 1600000 in
theorem sEx_cell (s : ByteArray) (m : Int) (x : T) (IX : SEx x) (hx : Good1 x) : SEx (.node 3 s m [x]) := by
 intro a c w hg hc hk
 obtain ⟨hs, _⟩ := good_shape hg
 have hA := exS_size _ hx.good
 have hcx : cnt x ≤ 499 := by simp only [cnt, cnts] at hc; omega
 rw [exS1, show lay 3 s m (kindT x) (exS x) 0 ⟨#[]⟩ = s ++ ⟨#[91]⟩ ++ exS x ++ ⟨#[93]⟩ by simp [lay]]
 rcases hk with h0 | ⟨b, o, rfl, _, hll⟩
 ·cases h0
 obtain ⟨xk, xs, xm, xkk⟩ := x
 obtain ⟨xa, xc, xc0, xc1, xc2, xc3, _, _, xkids⟩ := hll.at (i := 0) (show _ = some (T.node xk xs xm xkk) from rfl)
 simp only [Nat.zero_mul, Nat.add_zero] at xc0 xc1 xc2 xc3
 have HX := mkHid (fun W (hW : Below w.heap.size w W) => IX xa xc W hx.good (by omega) (xkids.below hW))
 have hA' : (exS (.node xk xs xm xkk)).size ≤ 1000000000 := by omega
 generalize exS (.node xk xs xm xkk) = A at HX hA' ⊢
 clear hg hc hll hx hA hcx IX xkids
 have z1 : (s ++ (ByteArray.mk #[91])).size = s.size + 1 := by rw [ByteArray.size_append]; rfl
 have z2 : (s ++ (ByteArray.mk #[91]) ++ A).size = s.size + 1 + A.size := by rw [ByteArray.size_append, z1]
 have k1 : ¬ 9223372036854775807 < s.size + 1 := by omega
 have k2 : ¬ 9223372036854775807 < s.size + 1 + A.size := by omega
 have k3 : ¬ 9223372036854775807 < s.size + 1 + A.size + 1 := by omega
 have B0 := mkHid ((Below.refl w.heap.size w).alloc (Nat.le_refl _) (.cells #[.int .i64 3, .string s, .int .i64 m, .slice (some ⟨b, o, none⟩) 1 c] 38))
 have F0 := mkHid (Four.new w 3 s m (some ⟨b, o, none⟩) 1 c 38)
 have hbw := World.block_lt_of_cell? w _ xc0
 have A0 := B0.out
 have nd : ∀ q, (w.alloc (.cells #[.int .i64 3, .string s, .int .i64 m, .slice (some ⟨b, o, none⟩) 1 c] 38)).cell? ⟨b, q, none⟩ = w.cell? ⟨b, q, none⟩ := fun q => A0.cell (p := ⟨b, q, none⟩) hbw
 obtain ⟨p0, p1, p2, p3⟩ := F0.out
 have xq0 := (nd _).trans xc0
 have xq1 := (nd _).trans xc1
 have xq2 := (nd _).trans xc2
 have xq3 := (nd _).trans xc3
 clear nd A0 xc0 xc1 xc2 xc3 hbw
 show Calls Tryz.prog 43 #[.agg #[.int .i64 3, .string s, .int .i64 m, .slice (some ⟨b, o, none⟩) 1 c]] w _
 go_enter Tryz.func43, Tryz.ntmps43
 go_wp2_with fail
 generalize w.alloc (.cells #[.int .i64 3, .string s, .int .i64 m, .slice (some ⟨b, o, none⟩) 1 c] 38) = w1 at *
 have l1 : w.heap.size < w1.heap.size := World.block_lt_of_cell? w1 _ p0
 have l2 : b < w1.heap.size := World.block_lt_of_cell? w1 _ xq0
 go_region_held3 (fun w' => w'.cell? ⟨w.heap.size, 0, none⟩ = some (.int .i64 3) ∧ w'.cell? ⟨w.heap.size, 1, none⟩ = some (.string s) ∧ w'.cell? ⟨w.heap.size, 2, none⟩ = some (.int .i64 m) ∧ w'.cell? ⟨w.heap.size, 3, none⟩ = some (.slice (some ⟨b, o, none⟩) 1 c) ∧ w'.cell? ⟨b, o, none⟩ = some (.int .i64 xk) ∧ w'.cell? ⟨b, o + 1, none⟩ = some (.string xs) ∧ w'.cell? ⟨b, o + 2, none⟩ = some (.int .i64 xm) ∧ w'.cell? ⟨b, o + 3, none⟩ = some (.slice xa xkk.length xc)) (first | exact ⟨p0, p1, p2, p3, xq0, xq1, xq2, xq3⟩ | exact ⟨(hc _ _ l1).trans p0, (hc _ _ l1).trans p1, (hc _ _ l1).trans p2, (hc _ _ l1).trans p3, (hc _ _ l2).trans xq0, (hc _ _ l2).trans xq1, (hc _ _ l2).trans xq2, (hc _ _ l2).trans xq3⟩) (first | (go_at_call 43; refine (HX.out _ B0.out.drew).mono ?_; rintro e w2 ⟨rfl, hb2⟩; obtain ⟨hc, hf⟩ := bcell hb2))
 have B2 := mkHid (below_step B0.out.drew hb2)
 clear hb2 hc hf
 go_wp2
 go_ret
 exact ⟨rfl, B2.out⟩

set_option maxRecDepth 100000 in
set_option maxHeartbeats 1600000 in
theorem sEx_neg (s : ByteArray) (m : Int) (x : T) (IX : SEx x) (hx : Good1 x) : SEx (.node 5 s m [x]) := by
 intro a c w hg hc hk
 obtain ⟨hs, _⟩ := good_shape hg
 have hA := exS_size _ hx.good
 have hcx : cnt x ≤ 499 := by simp only [cnt, cnts] at hc; omega
 rw [exS1, show lay 5 s m (kindT x) (exS x) 0 ⟨#[]⟩ = ⟨#[45]⟩ ++ par (kindT x) (exS x) 3 by simp [lay]]
 have hP := par_size (kindT x) (exS x) 3
 rcases hk with h0 | ⟨b, o, rfl, _, hll⟩
 ·cases h0
 obtain ⟨xk, xs, xm, xkk⟩ := x
 obtain ⟨xa, xc, xc0, xc1, xc2, xc3, _, _, xkids⟩ := hll.at (i := 0) (show _ = some (T.node xk xs xm xkk) from rfl)
 simp only [Nat.zero_mul, Nat.add_zero] at xc0 xc1 xc2 xc3
 have HX := mkHid (fun W (hW : Below w.heap.size w W) => paren_of xk xm xs xkk IX xa xc 3 W hx.good (by omega) (xkids.below hW))
 have hP' : (par xk (exS (.node xk xs xm xkk)) 3).size ≤ 1000000002 := by
  have : (par xk (exS (.node xk xs xm xkk)) 3).size ≤ (exS (.node xk xs xm xkk)).size + 2 := hP
  omega
 show Calls _ _ _ _ (fun e w' => e = .returned (.string (⟨#[45]⟩ ++ par xk (exS (.node xk xs xm xkk)) 3)) ∧ _)
 generalize par xk (exS (.node xk xs xm xkk)) 3 = A at HX hP' ⊢
 clear hg hc hll hx hA hcx IX xkids hP
 have B0 := mkHid ((Below.refl w.heap.size w).alloc (Nat.le_refl _) (.cells #[.int .i64 5, .string s, .int .i64 m, .slice (some ⟨b, o, none⟩) 1 c] 38))
 have F0 := mkHid (Four.new w 5 s m (some ⟨b, o, none⟩) 1 c 38)
 have hbw := World.block_lt_of_cell? w _ xc0
 have A0 := B0.out
 have nd : ∀ q, (w.alloc (.cells #[.int .i64 5, .string s, .int .i64 m, .slice (some ⟨b, o, none⟩) 1 c] 38)).cell? ⟨b, q, none⟩ = w.cell? ⟨b, q, none⟩ := fun q => A0.cell (p := ⟨b, q, none⟩) hbw
 obtain ⟨p0, p1, p2, p3⟩ := F0.out
 have xq0 := (nd _).trans xc0
 have xq1 := (nd _).trans xc1
 have xq2 := (nd _).trans xc2
 have xq3 := (nd _).trans xc3
 clear nd A0 xc0 xc1 xc2 xc3 hbw
 show Calls Tryz.prog 43 #[.agg #[.int .i64 5, .string s, .int .i64 m, .slice (some ⟨b, o, none⟩) 1 c]] w _
 go_enter Tryz.func43, Tryz.ntmps43
 go_wp2_with fail
 generalize w.alloc (.cells #[.int .i64 5, .string s, .int .i64 m, .slice (some ⟨b, o, none⟩) 1 c] 38) = w1 at *
 have l1 : w.heap.size < w1.heap.size := World.block_lt_of_cell? w1 _ p0
 have l2 : b < w1.heap.size := World.block_lt_of_cell? w1 _ xq0
 refine (HX.out _ B0.out).mono ?_
 rintro e w2 ⟨rfl, hb2⟩
 have B2 := mkHid (below_step B0.out hb2)
 clear hb2
 go_wp2
 go_ret
 exact ⟨rfl, B2.out⟩

set_option maxRecDepth 100000 in
set_option maxHeartbeats 1600000 in
theorem sEx_pair6 (s : ByteArray) (m : Int) (x y : T) (IX : SEx x) (IY : SEx y) (hx : Good1 x) (hy : Good1 y) : SEx (.node 6 s m [x, y]) := by
 intro a c w hg hc hk
 obtain ⟨hs, _⟩ := good_shape hg
 have hA := exS_size _ hx.good
 have hB := exS_size _ hy.good
 have hcx : cnt x + cnt y ≤ 499 := by simp only [cnt, cnts] at hc; omega
 rw [exS2, show lay 6 s m (kindT x) (exS x) (kindT y) (exS y) = par (kindT x) (exS x) 1 ++ ⟨#[32, 43, 32]⟩ ++ par (kindT y) (exS y) 2 by simp [lay]]
 have hP := par_size (kindT x) (exS x) 1
 have hR := par_size (kindT y) (exS y) 2
 rcases hk with h0 | ⟨b, o, rfl, _, hll⟩
 ·cases h0
 obtain ⟨xk, xs, xm, xkk⟩ := x
 obtain ⟨xa, xc, xc0, xc1, xc2, xc3, _, _, xkids⟩ := hll.at (i := 0) (show _ = some (T.node xk xs xm xkk) from rfl)
 simp only [Nat.zero_mul, Nat.add_zero] at xc0 xc1 xc2 xc3
 obtain ⟨yk, ys, ym, ykk⟩ := y
 obtain ⟨ya, yc, yc0, yc1, yc2, yc3, _, _, ykids⟩ := hll.at (i := 1) (show _ = some (T.node yk ys ym ykk) from rfl)
 simp only [Nat.one_mul] at yc0 yc1 yc2 yc3
 have HX := mkHid (fun W (hW : Below w.heap.size w W) => paren_of xk xm xs xkk IX xa xc 1 W hx.good (by omega) (xkids.below hW))
 have HY := mkHid (fun W (hW : Below w.heap.size w W) => paren_of yk ym ys ykk IY ya yc 2 W hy.good (by omega) (ykids.below hW))
 have hP' : (par xk (exS (.node xk xs xm xkk)) 1).size ≤ 1000000002 := by
  have : (par xk (exS (.node xk xs xm xkk)) 1).size ≤ (exS (.node xk xs xm xkk)).size + 2 := hP
  omega
 have hR' : (par yk (exS (.node yk ys ym ykk)) 2).size ≤ 1000000002 := by
  have : (par yk (exS (.node yk ys ym ykk)) 2).size ≤ (exS (.node yk ys ym ykk)).size + 2 := hR
  omega
 show Calls _ _ _ _ (fun e w' => e = .returned (.string (par xk (exS (.node xk xs xm xkk)) 1 ++ ⟨#[32, 43, 32]⟩ ++ par yk (exS (.node yk ys ym ykk)) 2)) ∧ _)
 generalize par xk (exS (.node xk xs xm xkk)) 1 = A at HX hP' ⊢
 generalize par yk (exS (.node yk ys ym ykk)) 2 = R at HY hR' ⊢
 clear hg hc hll hx hy hA hB hcx IX IY xkids ykids hP hR
 have z1 : (A ++ (ByteArray.mk #[32, 43, 32])).size = A.size + 3 := by rw [ByteArray.size_append]; rfl
 have k1 : ¬ 9223372036854775807 < A.size + 3 := by omega
 have k2 : ¬ 9223372036854775807 < A.size + 3 + R.size := by omega
 have B0 := mkHid ((Below.refl w.heap.size w).alloc (Nat.le_refl _) (.cells #[.int .i64 6, .string s, .int .i64 m, .slice (some ⟨b, o, none⟩) 2 c] 38))
 have F0 := mkHid (Four.new w 6 s m (some ⟨b, o, none⟩) 2 c 38)
 have hbw := World.block_lt_of_cell? w _ xc0
 have A0 := B0.out
 have nd : ∀ q, (w.alloc (.cells #[.int .i64 6, .string s, .int .i64 m, .slice (some ⟨b, o, none⟩) 2 c] 38)).cell? ⟨b, q, none⟩ = w.cell? ⟨b, q, none⟩ := fun q => A0.cell (p := ⟨b, q, none⟩) hbw
 obtain ⟨p0, p1, p2, p3⟩ := F0.out
 have xq0 := (nd _).trans xc0
 have xq1 := (nd _).trans xc1
 have xq2 := (nd _).trans xc2
 have xq3 := (nd _).trans xc3
 have yq0 := (nd _).trans yc0
 have yq1 := (nd _).trans yc1
 have yq2 := (nd _).trans yc2
 have yq3 := (nd _).trans yc3
 clear nd A0 xc0 xc1 xc2 xc3 yc0 yc1 yc2 yc3 hbw
 show Calls Tryz.prog 43 #[.agg #[.int .i64 6, .string s, .int .i64 m, .slice (some ⟨b, o, none⟩) 2 c]] w _
 go_enter Tryz.func43, Tryz.ntmps43
 go_wp2_with fail
 generalize w.alloc (.cells #[.int .i64 6, .string s, .int .i64 m, .slice (some ⟨b, o, none⟩) 2 c] 38) = w1 at *
 have l1 : w.heap.size < w1.heap.size := World.block_lt_of_cell? w1 _ p0
 have l2 : b < w1.heap.size := World.block_lt_of_cell? w1 _ xq0
 go_region_held3 (fun w' => w'.cell? ⟨w.heap.size, 0, none⟩ = some (.int .i64 6) ∧ w'.cell? ⟨w.heap.size, 1, none⟩ = some (.string s) ∧ w'.cell? ⟨w.heap.size, 2, none⟩ = some (.int .i64 m) ∧ w'.cell? ⟨w.heap.size, 3, none⟩ = some (.slice (some ⟨b, o, none⟩) 2 c) ∧ w'.cell? ⟨b, o, none⟩ = some (.int .i64 xk) ∧ w'.cell? ⟨b, o + 1, none⟩ = some (.string xs) ∧ w'.cell? ⟨b, o + 2, none⟩ = some (.int .i64 xm) ∧ w'.cell? ⟨b, o + 3, none⟩ = some (.slice xa xkk.length xc) ∧ w'.cell? ⟨b, o + 4, none⟩ = some (.int .i64 yk) ∧ w'.cell? ⟨b, o + 4 + 1, none⟩ = some (.string ys) ∧ w'.cell? ⟨b, o + 4 + 2, none⟩ = some (.int .i64 ym) ∧ w'.cell? ⟨b, o + 4 + 3, none⟩ = some (.slice ya ykk.length yc)) (first | exact ⟨p0, p1, p2, p3, xq0, xq1, xq2, xq3, yq0, yq1, yq2, yq3⟩ | exact ⟨(hc _ _ l1).trans p0, (hc _ _ l1).trans p1, (hc _ _ l1).trans p2, (hc _ _ l1).trans p3, (hc _ _ l2).trans xq0, (hc _ _ l2).trans xq1, (hc _ _ l2).trans xq2, (hc _ _ l2).trans xq3, (hc _ _ l2).trans yq0, (hc _ _ l2).trans yq1, (hc _ _ l2).trans yq2, (hc _ _ l2).trans yq3⟩) (first | (go_at_call_of 61 (Value.agg #[.int .i64 xk, .string xs, .int .i64 xm, .slice xa xkk.length xc]); refine (HX.out _ B0.out.drew).mono ?_; rintro e w2 ⟨rfl, hb2⟩; obtain ⟨hc, hf⟩ := bcell hb2) | (go_at_call_of 61 (Value.agg #[.int .i64 yk, .string ys, .int .i64 ym, .slice ya ykk.length yc]); refine (HY.out _ (below_step B0.out.drew hb2)).mono ?_; rintro e w3 ⟨rfl, hb3⟩; obtain ⟨hc', hf'⟩ := bcell hb3; have hc := fun (b o : Nat) (h : b < w1.drew.heap.size) => (hc' b o (Nat.lt_of_lt_of_le h hb2.size)).trans (hc b o h)))
 have B3 := mkHid (below_step (below_step B0.out.drew hb2) hb3)
 clear hb2 hb3 hc hc' hf hf'
 go_wp2
 go_ret
 exact ⟨rfl, B3.out⟩

set_option maxRecDepth 100000 in
set_option maxHeartbeats 1600000 in
theorem sEx_pair7 (s : ByteArray) (m : Int) (x y : T) (IX : SEx x) (IY : SEx y) (hx : Good1 x) (hy : Good1 y) : SEx (.node 7 s m [x, y]) := by
 intro a c w hg hc hk
 obtain ⟨hs, _⟩ := good_shape hg
 have hA := exS_size _ hx.good
 have hB := exS_size _ hy.good
 have hcx : cnt x + cnt y ≤ 499 := by simp only [cnt, cnts] at hc; omega
 rw [exS2, show lay 7 s m (kindT x) (exS x) (kindT y) (exS y) = par (kindT x) (exS x) 1 ++ ⟨#[32, 45, 32]⟩ ++ par (kindT y) (exS y) 2 by simp [lay]]
 have hP := par_size (kindT x) (exS x) 1
 have hR := par_size (kindT y) (exS y) 2
 rcases hk with h0 | ⟨b, o, rfl, _, hll⟩
 ·cases h0
 obtain ⟨xk, xs, xm, xkk⟩ := x
 obtain ⟨xa, xc, xc0, xc1, xc2, xc3, _, _, xkids⟩ := hll.at (i := 0) (show _ = some (T.node xk xs xm xkk) from rfl)
 simp only [Nat.zero_mul, Nat.add_zero] at xc0 xc1 xc2 xc3
 obtain ⟨yk, ys, ym, ykk⟩ := y
 obtain ⟨ya, yc, yc0, yc1, yc2, yc3, _, _, ykids⟩ := hll.at (i := 1) (show _ = some (T.node yk ys ym ykk) from rfl)
 simp only [Nat.one_mul] at yc0 yc1 yc2 yc3
 have HX := mkHid (fun W (hW : Below w.heap.size w W) => paren_of xk xm xs xkk IX xa xc 1 W hx.good (by omega) (xkids.below hW))
 have HY := mkHid (fun W (hW : Below w.heap.size w W) => paren_of yk ym ys ykk IY ya yc 2 W hy.good (by omega) (ykids.below hW))
 have hP' : (par xk (exS (.node xk xs xm xkk)) 1).size ≤ 1000000002 := by
  have : (par xk (exS (.node xk xs xm xkk)) 1).size ≤ (exS (.node xk xs xm xkk)).size + 2 := hP
  omega
 have hR' : (par yk (exS (.node yk ys ym ykk)) 2).size ≤ 1000000002 := by
  have : (par yk (exS (.node yk ys ym ykk)) 2).size ≤ (exS (.node yk ys ym ykk)).size + 2 := hR
  omega
 show Calls _ _ _ _ (fun e w' => e = .returned (.string (par xk (exS (.node xk xs xm xkk)) 1 ++ ⟨#[32, 45, 32]⟩ ++ par yk (exS (.node yk ys ym ykk)) 2)) ∧ _)
 generalize par xk (exS (.node xk xs xm xkk)) 1 = A at HX hP' ⊢
 generalize par yk (exS (.node yk ys ym ykk)) 2 = R at HY hR' ⊢
 clear hg hc hll hx hy hA hB hcx IX IY xkids ykids hP hR
 have z1 : (A ++ (ByteArray.mk #[32, 45, 32])).size = A.size + 3 := by rw [ByteArray.size_append]; rfl
 have k1 : ¬ 9223372036854775807 < A.size + 3 := by omega
 have k2 : ¬ 9223372036854775807 < A.size + 3 + R.size := by omega
 have B0 := mkHid ((Below.refl w.heap.size w).alloc (Nat.le_refl _) (.cells #[.int .i64 7, .string s, .int .i64 m, .slice (some ⟨b, o, none⟩) 2 c] 38))
 have F0 := mkHid (Four.new w 7 s m (some ⟨b, o, none⟩) 2 c 38)
 have hbw := World.block_lt_of_cell? w _ xc0
 have A0 := B0.out
 have nd : ∀ q, (w.alloc (.cells #[.int .i64 7, .string s, .int .i64 m, .slice (some ⟨b, o, none⟩) 2 c] 38)).cell? ⟨b, q, none⟩ = w.cell? ⟨b, q, none⟩ := fun q => A0.cell (p := ⟨b, q, none⟩) hbw
 obtain ⟨p0, p1, p2, p3⟩ := F0.out
 have xq0 := (nd _).trans xc0
 have xq1 := (nd _).trans xc1
 have xq2 := (nd _).trans xc2
 have xq3 := (nd _).trans xc3
 have yq0 := (nd _).trans yc0
 have yq1 := (nd _).trans yc1
 have yq2 := (nd _).trans yc2
 have yq3 := (nd _).trans yc3
 clear nd A0 xc0 xc1 xc2 xc3 yc0 yc1 yc2 yc3 hbw
 show Calls Tryz.prog 43 #[.agg #[.int .i64 7, .string s, .int .i64 m, .slice (some ⟨b, o, none⟩) 2 c]] w _
 go_enter Tryz.func43, Tryz.ntmps43
 go_wp2_with fail
 generalize w.alloc (.cells #[.int .i64 7, .string s, .int .i64 m, .slice (some ⟨b, o, none⟩) 2 c] 38) = w1 at *
 have l1 : w.heap.size < w1.heap.size := World.block_lt_of_cell? w1 _ p0
 have l2 : b < w1.heap.size := World.block_lt_of_cell? w1 _ xq0
 go_region_held3 (fun w' => w'.cell? ⟨w.heap.size, 0, none⟩ = some (.int .i64 7) ∧ w'.cell? ⟨w.heap.size, 1, none⟩ = some (.string s) ∧ w'.cell? ⟨w.heap.size, 2, none⟩ = some (.int .i64 m) ∧ w'.cell? ⟨w.heap.size, 3, none⟩ = some (.slice (some ⟨b, o, none⟩) 2 c) ∧ w'.cell? ⟨b, o, none⟩ = some (.int .i64 xk) ∧ w'.cell? ⟨b, o + 1, none⟩ = some (.string xs) ∧ w'.cell? ⟨b, o + 2, none⟩ = some (.int .i64 xm) ∧ w'.cell? ⟨b, o + 3, none⟩ = some (.slice xa xkk.length xc) ∧ w'.cell? ⟨b, o + 4, none⟩ = some (.int .i64 yk) ∧ w'.cell? ⟨b, o + 4 + 1, none⟩ = some (.string ys) ∧ w'.cell? ⟨b, o + 4 + 2, none⟩ = some (.int .i64 ym) ∧ w'.cell? ⟨b, o + 4 + 3, none⟩ = some (.slice ya ykk.length yc)) (first | exact ⟨p0, p1, p2, p3, xq0, xq1, xq2, xq3, yq0, yq1, yq2, yq3⟩ | exact ⟨(hc _ _ l1).trans p0, (hc _ _ l1).trans p1, (hc _ _ l1).trans p2, (hc _ _ l1).trans p3, (hc _ _ l2).trans xq0, (hc _ _ l2).trans xq1, (hc _ _ l2).trans xq2, (hc _ _ l2).trans xq3, (hc _ _ l2).trans yq0, (hc _ _ l2).trans yq1, (hc _ _ l2).trans yq2, (hc _ _ l2).trans yq3⟩) (first | (go_at_call_of 61 (Value.agg #[.int .i64 xk, .string xs, .int .i64 xm, .slice xa xkk.length xc]); refine (HX.out _ B0.out.drew).mono ?_; rintro e w2 ⟨rfl, hb2⟩; obtain ⟨hc, hf⟩ := bcell hb2) | (go_at_call_of 61 (Value.agg #[.int .i64 yk, .string ys, .int .i64 ym, .slice ya ykk.length yc]); refine (HY.out _ (below_step B0.out.drew hb2)).mono ?_; rintro e w3 ⟨rfl, hb3⟩; obtain ⟨hc', hf'⟩ := bcell hb3; have hc := fun (b o : Nat) (h : b < w1.drew.heap.size) => (hc' b o (Nat.lt_of_lt_of_le h hb2.size)).trans (hc b o h)))
 have B3 := mkHid (below_step (below_step B0.out.drew hb2) hb3)
 clear hb2 hb3 hc hc' hf hf'
 go_wp2
 go_ret
 exact ⟨rfl, B3.out⟩

set_option maxRecDepth 100000 in
set_option maxHeartbeats 1600000 in
theorem sEx_pair8 (s : ByteArray) (m : Int) (x y : T) (IX : SEx x) (IY : SEx y) (hx : Good1 x) (hy : Good1 y) : SEx (.node 8 s m [x, y]) := by
 intro a c w hg hc hk
 obtain ⟨hs, _⟩ := good_shape hg
 have hA := exS_size _ hx.good
 have hB := exS_size _ hy.good
 have hcx : cnt x + cnt y ≤ 499 := by simp only [cnt, cnts] at hc; omega
 rw [exS2, show lay 8 s m (kindT x) (exS x) (kindT y) (exS y) = par (kindT x) (exS x) 2 ++ ⟨#[32, 42, 32]⟩ ++ par (kindT y) (exS y) 3 by simp [lay]]
 have hP := par_size (kindT x) (exS x) 2
 have hR := par_size (kindT y) (exS y) 3
 rcases hk with h0 | ⟨b, o, rfl, _, hll⟩
 ·cases h0
 obtain ⟨xk, xs, xm, xkk⟩ := x
 obtain ⟨xa, xc, xc0, xc1, xc2, xc3, _, _, xkids⟩ := hll.at (i := 0) (show _ = some (T.node xk xs xm xkk) from rfl)
 simp only [Nat.zero_mul, Nat.add_zero] at xc0 xc1 xc2 xc3
 obtain ⟨yk, ys, ym, ykk⟩ := y
 obtain ⟨ya, yc, yc0, yc1, yc2, yc3, _, _, ykids⟩ := hll.at (i := 1) (show _ = some (T.node yk ys ym ykk) from rfl)
 simp only [Nat.one_mul] at yc0 yc1 yc2 yc3
 have HX := mkHid (fun W (hW : Below w.heap.size w W) => paren_of xk xm xs xkk IX xa xc 2 W hx.good (by omega) (xkids.below hW))
 have HY := mkHid (fun W (hW : Below w.heap.size w W) => paren_of yk ym ys ykk IY ya yc 3 W hy.good (by omega) (ykids.below hW))
 have hP' : (par xk (exS (.node xk xs xm xkk)) 2).size ≤ 1000000002 := by
  have : (par xk (exS (.node xk xs xm xkk)) 2).size ≤ (exS (.node xk xs xm xkk)).size + 2 := hP
  omega
 have hR' : (par yk (exS (.node yk ys ym ykk)) 3).size ≤ 1000000002 := by
  have : (par yk (exS (.node yk ys ym ykk)) 3).size ≤ (exS (.node yk ys ym ykk)).size + 2 := hR
  omega
 show Calls _ _ _ _ (fun e w' => e = .returned (.string (par xk (exS (.node xk xs xm xkk)) 2 ++ ⟨#[32, 42, 32]⟩ ++ par yk (exS (.node yk ys ym ykk)) 3)) ∧ _)
 generalize par xk (exS (.node xk xs xm xkk)) 2 = A at HX hP' ⊢
 generalize par yk (exS (.node yk ys ym ykk)) 3 = R at HY hR' ⊢
 clear hg hc hll hx hy hA hB hcx IX IY xkids ykids hP hR
 have z1 : (A ++ (ByteArray.mk #[32, 42, 32])).size = A.size + 3 := by rw [ByteArray.size_append]; rfl
 have k1 : ¬ 9223372036854775807 < A.size + 3 := by omega
 have k2 : ¬ 9223372036854775807 < A.size + 3 + R.size := by omega
 have B0 := mkHid ((Below.refl w.heap.size w).alloc (Nat.le_refl _) (.cells #[.int .i64 8, .string s, .int .i64 m, .slice (some ⟨b, o, none⟩) 2 c] 38))
 have F0 := mkHid (Four.new w 8 s m (some ⟨b, o, none⟩) 2 c 38)
 have hbw := World.block_lt_of_cell? w _ xc0
 have A0 := B0.out
 have nd : ∀ q, (w.alloc (.cells #[.int .i64 8, .string s, .int .i64 m, .slice (some ⟨b, o, none⟩) 2 c] 38)).cell? ⟨b, q, none⟩ = w.cell? ⟨b, q, none⟩ := fun q => A0.cell (p := ⟨b, q, none⟩) hbw
 obtain ⟨p0, p1, p2, p3⟩ := F0.out
 have xq0 := (nd _).trans xc0
 have xq1 := (nd _).trans xc1
 have xq2 := (nd _).trans xc2
 have xq3 := (nd _).trans xc3
 have yq0 := (nd _).trans yc0
 have yq1 := (nd _).trans yc1
 have yq2 := (nd _).trans yc2
 have yq3 := (nd _).trans yc3
 clear nd A0 xc0 xc1 xc2 xc3 yc0 yc1 yc2 yc3 hbw
 show Calls Tryz.prog 43 #[.agg #[.int .i64 8, .string s, .int .i64 m, .slice (some ⟨b, o, none⟩) 2 c]] w _
 go_enter Tryz.func43, Tryz.ntmps43
 go_wp2_with fail
 generalize w.alloc (.cells #[.int .i64 8, .string s, .int .i64 m, .slice (some ⟨b, o, none⟩) 2 c] 38) = w1 at *
 have l1 : w.heap.size < w1.heap.size := World.block_lt_of_cell? w1 _ p0
 have l2 : b < w1.heap.size := World.block_lt_of_cell? w1 _ xq0
 go_region_held3 (fun w' => w'.cell? ⟨w.heap.size, 0, none⟩ = some (.int .i64 8) ∧ w'.cell? ⟨w.heap.size, 1, none⟩ = some (.string s) ∧ w'.cell? ⟨w.heap.size, 2, none⟩ = some (.int .i64 m) ∧ w'.cell? ⟨w.heap.size, 3, none⟩ = some (.slice (some ⟨b, o, none⟩) 2 c) ∧ w'.cell? ⟨b, o, none⟩ = some (.int .i64 xk) ∧ w'.cell? ⟨b, o + 1, none⟩ = some (.string xs) ∧ w'.cell? ⟨b, o + 2, none⟩ = some (.int .i64 xm) ∧ w'.cell? ⟨b, o + 3, none⟩ = some (.slice xa xkk.length xc) ∧ w'.cell? ⟨b, o + 4, none⟩ = some (.int .i64 yk) ∧ w'.cell? ⟨b, o + 4 + 1, none⟩ = some (.string ys) ∧ w'.cell? ⟨b, o + 4 + 2, none⟩ = some (.int .i64 ym) ∧ w'.cell? ⟨b, o + 4 + 3, none⟩ = some (.slice ya ykk.length yc)) (first | exact ⟨p0, p1, p2, p3, xq0, xq1, xq2, xq3, yq0, yq1, yq2, yq3⟩ | exact ⟨(hc _ _ l1).trans p0, (hc _ _ l1).trans p1, (hc _ _ l1).trans p2, (hc _ _ l1).trans p3, (hc _ _ l2).trans xq0, (hc _ _ l2).trans xq1, (hc _ _ l2).trans xq2, (hc _ _ l2).trans xq3, (hc _ _ l2).trans yq0, (hc _ _ l2).trans yq1, (hc _ _ l2).trans yq2, (hc _ _ l2).trans yq3⟩) (first | (go_at_call_of 61 (Value.agg #[.int .i64 xk, .string xs, .int .i64 xm, .slice xa xkk.length xc]); refine (HX.out _ B0.out.drew).mono ?_; rintro e w2 ⟨rfl, hb2⟩; obtain ⟨hc, hf⟩ := bcell hb2) | (go_at_call_of 61 (Value.agg #[.int .i64 yk, .string ys, .int .i64 ym, .slice ya ykk.length yc]); refine (HY.out _ (below_step B0.out.drew hb2)).mono ?_; rintro e w3 ⟨rfl, hb3⟩; obtain ⟨hc', hf'⟩ := bcell hb3; have hc := fun (b o : Nat) (h : b < w1.drew.heap.size) => (hc' b o (Nat.lt_of_lt_of_le h hb2.size)).trans (hc b o h)))
 have B3 := mkHid (below_step (below_step B0.out.drew hb2) hb3)
 clear hb2 hb3 hc hc' hf hf'
 go_wp2
 go_ret
 exact ⟨rfl, B3.out⟩

end Go.Proofs.YtedfnadgmhjojaaGreatDoor
