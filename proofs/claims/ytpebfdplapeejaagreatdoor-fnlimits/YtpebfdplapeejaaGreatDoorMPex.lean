/-
  CONTRACTS of both ExprOk and both CondOk.
  THE TEXT OF AN EXPRESSION, as a plain function; what a formed one looks like; how long its text is.
  CONTRACTS of the specification's l02Tight, l02Paren, l02Expr.
  THE PRINTER IN MEMORY: a strings.Builder that is the first field of a struct; contracts of copyCheck and WriteString there.
  CONTRACTS of Len and String of a printer's builder.
  CONTRACTS of the program's ties, of formOf at expressions and conditions, and of a printer's text of names and numbers.
-/
import Derived.Test.YtpebfdplapeejaaGreatDoorMAgree
import Derived.Test.YtpebfdplapeejaaGreatDoorMWrow
import Derived.Test.YtpebfdplapeejaaGreatDoorRows
import Derived.WalkKit
import Derived.WalkSpells
import Derived.WalkLawsBesides
import Derived.Shelf.Strings.BuilderK
import Derived.Test.YtpebfdplapeejaaGreatDoorMCount
namespace Go.Proofs.YtpebfdplapeejaaGreatDoor
open Go.RowKit
open Pl

def fitsS (t : T) : Bool := decide (cnt t ≤ 500) && decide (dep t ≤ 24) && formedT t

end Go.Proofs.YtpebfdplapeejaaGreatDoor
namespace Go.Proofs.YtpebfdplapeejaaGreatDoor
open Go.RowKit
open Pl

def tightI (k : Int) : Int := if k = 6 ∨ k = 7 then 1 else if k = 8 then 2 else 3
def par (k : Int) (s : ByteArray) (least : Int) : ByteArray := if tightI k < least then ⟨#[40]⟩ ++ s ++ ⟨#[41]⟩ else s
def lay (k : Int) (s : ByteArray) (m : Int) (ka : Int) (a : ByteArray) (kb : Int) (b : ByteArray) : ByteArray :=
  if k = 1 then dec m.toNat else
  if k = 2 then s else
  if k = 3 then s ++ ⟨#[91]⟩ ++ a ++ ⟨#[93]⟩ else
  if k = 4 then ⟨#[108, 101, 110, 40]⟩ ++ s ++ ⟨#[41]⟩ else
  if k = 5 then ⟨#[45]⟩ ++ par ka a 3 else
  if k = 6 then par ka a 1 ++ ⟨#[32, 43, 32]⟩ ++ par kb b 2 else
  if k = 7 then par ka a 1 ++ ⟨#[32, 45, 32]⟩ ++ par kb b 2 else
  if k = 8 then par ka a 2 ++ ⟨#[32, 42, 32]⟩ ++ par kb b 3 else
  a ++ ⟨#[32]⟩ ++ signI k ++ ⟨#[32]⟩ ++ b
def none2 : Int × ByteArray := (0, ⟨#[]⟩)
mutual
def exS : T → ByteArray
  | .node k s m kk => lay k s m ((exSs kk)[0]?.getD none2).1 ((exSs kk)[0]?.getD none2).2 ((exSs kk)[1]?.getD none2).1 ((exSs kk)[1]?.getD none2).2
def exSs : List T → List (Int × ByteArray)
  | [] => []
  | t :: r => (kindT t, exS t) :: exSs r
end
theorem exS0 (k m : Int) (s : ByteArray) : exS (.node k s m []) = lay k s m 0 ⟨#[]⟩ 0 ⟨#[]⟩ := by simp [exS, exSs, none2]
theorem exS1 (k m : Int) (s : ByteArray) (x : T) : exS (.node k s m [x]) = lay k s m (kindT x) (exS x) 0 ⟨#[]⟩ := by simp [exS, exSs, none2]
theorem exS2 (k m : Int) (s : ByteArray) (x y : T) : exS (.node k s m [x, y]) = lay k s m (kindT x) (exS x) (kindT y) (exS y) := by simp [exS, exSs]

/-- A formed expression. -/
def Good1 (t : T) : Prop := formedT t = true ∧ 1 ≤ kindT t ∧ kindT t ≤ 8
def Good (t : T) : Prop := formedT t = true ∧ (1 ≤ kindT t ∧ kindT t ≤ 8 ∨ 11 ≤ kindT t ∧ kindT t ≤ 16)
theorem Good1.good {t : T} (h : Good1 t) : Good t := ⟨h.1, .inl h.2⟩

theorem formed_parts {k m : Int} {s : ByteArray} {kk : List T} (h : formedT (.node k s m kk) = true) : formHead k s kk.length = true ∧ numOk k m = true ∧ ∀ (j : Nat) (t : T), kk[j]? = some t → (kidI k kk.length j (kindT t) && formedT t) = true := by
  rw [show formedT (.node k s m kk) = (formHead k s kk.length && numOk k m && formedL k kk.length 0 kk) by simp only [formedT]] at h
  simp only [Bool.and_eq_true] at h
  obtain ⟨⟨h1, h2⟩, h3⟩ := h
  exact ⟨h1, h2, fun j t ht => by have := (formedL_iff _ _ _ _).1 h3 j t ht; rwa [Nat.zero_add] at this⟩
theorem nameB_le (s : ByteArray) (h : nameB s = true) : s.size ≤ 8 := by
  have hp : nameP s := by simpa [nameB] using h
  exact hp.2.1
theorem head_size {k : Int} {s : ByteArray} {n : Nat} (h : formHead k s n = true) : s.size ≤ 8 := by
  unfold formHead at h
  generalize shapeI k = sh at h
  obtain ⟨ks, nm, sm⟩ := sh
  simp at h
  cases nm with
  | true => exact nameB_le s (by simpa using h.1.2)
  | false =>
    have := h.1.1.2
    simp at this
    rw [this]
    exact Nat.zero_le _

inductive Shp (k m : Int) (kk : List T) : Prop
  | num (h : k = 1) (hk : kk = []) (h0 : 0 ≤ m) (h1 : m ≤ 1000000)
  | var (h : k = 2) (hk : kk = [])
  | len (h : k = 4) (hk : kk = [])
  | cell (h : k = 3) (x : T) (hk : kk = [x]) (hx : Good1 x)
  | neg (h : k = 5) (x : T) (hk : kk = [x]) (hx : Good1 x)
  | pair (h : k = 6 ∨ k = 7 ∨ k = 8) (x y : T) (hk : kk = [x, y]) (hx : Good1 x) (hy : Good1 y)
  | cond (h : 11 ≤ k ∧ k ≤ 16) (x y : T) (hk : kk = [x, y]) (hx : Good1 x) (hy : Good1 y)
theorem betw_iff {x lo hi : Int} (h : betw x lo hi = true) : lo ≤ x ∧ x ≤ hi := by simpa [betw] using h

theorem good_shape {k m : Int} {s : ByteArray} {kk : List T} (h : Good (.node k s m kk)) : s.size ≤ 8 ∧ Shp k m kk := by
  obtain ⟨h1, h2⟩ := h
  obtain ⟨hh, hn, hk⟩ := formed_parts h1
  refine ⟨head_size hh, ?_⟩
  have h2' : 1 ≤ k ∧ k ≤ 8 ∨ 11 ≤ k ∧ k ≤ 16 := h2
  have kid : ∀ (j : Nat) (t : T), kk[j]? = some t → (k ≠ 24 ∧ k ≠ 25 ∧ k ≠ 27 ∧ k ≠ 26 ∧ k ≠ 30 ∧ k ≠ 40) → Good1 t := by
    rintro j t ht ⟨a1, a2, a3, a4, a5, a6⟩
    have := hk j t ht
    rw [show kidI k kk.length j (kindT t) = betw (kindT t) 1 8 by simp [kidI, a1, a2, a3, a4, a5, a6]] at this
    simp only [Bool.and_eq_true] at this
    exact ⟨this.2, betw_iff this.1⟩
  have none : k ≠ 24 ∧ k ≠ 25 ∧ k ≠ 27 ∧ k ≠ 26 ∧ k ≠ 30 ∧ k ≠ 40 := by omega
  have ar : ∀ (n : Int) (b : Bool), shapeI k = (n, b, true) → 0 ≤ n → (kk.length : Int) = n := by
    intro n b e h0
    unfold formHead at hh
    rw [e] at hh
    simp at hh
    omega
  have one : kk.length = 1 → ∃ x, kk = [x] ∧ Good1 x := fun e => by
    obtain ⟨x, hx⟩ := List.length_eq_one_iff.1 e
    exact ⟨x, hx, kid 0 x (by rw [hx]; rfl) none⟩
  have two : kk.length = 2 → ∃ x y, kk = [x, y] ∧ Good1 x ∧ Good1 y := fun e => by
    obtain ⟨x, y, hx⟩ : ∃ x y, kk = [x, y] := by
      match kk, e with
      | [x, y], _ => exact ⟨x, y, rfl⟩
    exact ⟨x, y, hx, kid 0 x (by rw [hx]; rfl) none, kid 1 y (by rw [hx]; rfl) none⟩
  by_cases e1 : k = 1
  · have hl := ar 0 false (by rw [e1]; rfl) (by decide)
    rw [show numOk k m = betw m 0 1000000 by simp [numOk, e1]] at hn
    exact .num e1 (List.length_eq_zero_iff.1 (by omega)) (betw_iff hn).1 (betw_iff hn).2
  by_cases e2 : k = 2
  · have hl := ar 0 true (by rw [e2]; rfl) (by decide)
    exact .var e2 (List.length_eq_zero_iff.1 (by omega))
  by_cases e4 : k = 4
  · have hl := ar 0 true (by rw [e4]; rfl) (by decide)
    exact .len e4 (List.length_eq_zero_iff.1 (by omega))
  by_cases e3 : k = 3
  · have hl := ar 1 true (by rw [e3]; rfl) (by decide)
    obtain ⟨x, hx, gx⟩ := one (by omega)
    exact .cell e3 x hx gx
  by_cases e5 : k = 5
  · have hl := ar 1 false (by rw [e5]; rfl) (by decide)
    obtain ⟨x, hx, gx⟩ := one (by omega)
    exact .neg e5 x hx gx
  by_cases e6 : k = 6
  · have hl := ar 2 false (by rw [e6]; rfl) (by decide)
    obtain ⟨x, y, hx, gx, gy⟩ := two (by omega)
    exact .pair (by omega) x y hx gx gy
  by_cases e7 : k = 7
  · have hl := ar 2 false (by rw [e7]; rfl) (by decide)
    obtain ⟨x, y, hx, gx, gy⟩ := two (by omega)
    exact .pair (by omega) x y hx gx gy
  by_cases e8 : k = 8
  · have hl := ar 2 false (by rw [e8]; rfl) (by decide)
    obtain ⟨x, y, hx, gx, gy⟩ := two (by omega)
    exact .pair (by omega) x y hx gx gy
  · have hk' : k = 11 ∨ k = 12 ∨ k = 13 ∨ k = 14 ∨ k = 15 ∨ k = 16 := by omega
    have hs : shapeI k = (2, false, true) := by rcases hk' with rfl | rfl | rfl | rfl | rfl | rfl <;> rfl
    have hl := ar 2 false hs (by decide)
    obtain ⟨x, y, hx, gx, gy⟩ := two (by omega)
    exact .cond (by omega) x y hx gx gy

theorem par_size (k : Int) (s : ByteArray) (l : Int) : (par k s l).size ≤ s.size + 2 := by
  unfold par
  split
  · rw [ByteArray.size_append, ByteArray.size_append]
    have e1 : (ByteArray.mk #[40]).size = 1 := rfl
    have e2 : (ByteArray.mk #[41]).size = 1 := rfl
    omega
  · omega
theorem sign_size (k : Int) : (signI k).size ≤ 2 := by
  unfold signI
  repeat' split
  all_goals decide
theorem lay_size (k m : Int) (s : ByteArray) (ka : Int) (a : ByteArray) (kb : Int) (b : ByteArray) (hs : s.size ≤ 8) (hm : m ≤ 1000000) : (lay k s m ka a kb b).size ≤ 2000000 + a.size + b.size := by
  have d := dec_size m.toNat
  have p1 := par_size ka a 1
  have p2 := par_size ka a 2
  have p3 := par_size ka a 3
  have q2 := par_size kb b 2
  have q3 := par_size kb b 3
  have sg := sign_size k
  unfold lay
  repeat' split
  all_goals try simp only [ByteArray.size_append]
  all_goals try simp only [show (ByteArray.mk #[91]).size = 1 from rfl, show (ByteArray.mk #[93]).size = 1 from rfl, show (ByteArray.mk #[41]).size = 1 from rfl, show (ByteArray.mk #[45]).size = 1 from rfl, show (ByteArray.mk #[32]).size = 1 from rfl, show (ByteArray.mk #[108, 101, 110, 40]).size = 4 from rfl, show (ByteArray.mk #[32, 43, 32]).size = 3 from rfl, show (ByteArray.mk #[32, 45, 32]).size = 3 from rfl, show (ByteArray.mk #[32, 42, 32]).size = 3 from rfl]
  all_goals omega
theorem exS_size (t : T) : Good t → (exS t).size ≤ 2000000 * cnt t := by
  refine T.induct (P := fun t => Good t → (exS t).size ≤ 2000000 * cnt t) ?_ t
  intro k s m kk IH hg
  obtain ⟨hs, sh⟩ := good_shape hg
  have hm : m ≤ 1000000 := by
    have := (formed_parts hg.1).2.1
    unfold numOk at this
    split at this
    · exact (betw_iff this).2
    · split at this
      · exact (betw_iff this).2
      · simp at this
        omega
  have z : (ByteArray.mk #[]).size = 0 := rfl
  have L := fun ka a kb b => lay_size k m s ka a kb b hs hm
  cases sh with
  | num h hk h0 h1 => subst hk; rw [exS0]; have := L 0 ⟨#[]⟩ 0 ⟨#[]⟩; simp only [cnt, cnts]; omega
  | var h hk => subst hk; rw [exS0]; have := L 0 ⟨#[]⟩ 0 ⟨#[]⟩; simp only [cnt, cnts]; omega
  | len h hk => subst hk; rw [exS0]; have := L 0 ⟨#[]⟩ 0 ⟨#[]⟩; simp only [cnt, cnts]; omega
  | cell h x hk hx => subst hk; rw [exS1]; have := L (kindT x) (exS x) 0 ⟨#[]⟩; have := IH x (by simp) hx.good; simp only [cnt, cnts]; omega
  | neg h x hk hx => subst hk; rw [exS1]; have := L (kindT x) (exS x) 0 ⟨#[]⟩; have := IH x (by simp) hx.good; simp only [cnt, cnts]; omega
  | pair h x y hk hx hy => subst hk; rw [exS2]; have := L (kindT x) (exS x) (kindT y) (exS y); have := IH x (by simp) hx.good; have := IH y (by simp) hy.good; simp only [cnt, cnts]; omega
  | cond h x y hk hx hy => subst hk; rw [exS2]; have := L (kindT x) (exS x) (kindT y) (exS y); have := IH x (by simp) hx.good; have := IH y (by simp) hy.good; simp only [cnt, cnts]; omega
end Go.Proofs.YtpebfdplapeejaaGreatDoor
namespace Go.Proofs.YtpebfdplapeejaaGreatDoor
open Go.RowKit
open Pl

end Go.Proofs.YtpebfdplapeejaaGreatDoor
namespace Go.Proofs.YtpebfdplapeejaaGreatDoor
open Go.RowKit

/-- The printer at block b: the pointer of its builder, its buffer, no blocks around. -/
def PrAt (dp : Int) (B b : Nat) (p : Value) (bs : List Value) (w : World) : Prop :=
  B ≤ b ∧ ∃ v, w.heap[b]? = some (.cells #[p, v, .int .i64 dp] 111 (0, 0)) ∧ w.ownsRowF B 5 1 v bs.length bs ∧ v.ownBlock ≠ some b
def IsPr (dp : Int) (B b : Nat) (bs : List Value) (w : World) : Prop := PrAt dp B b (.pointer none) bs w ∨ PrAt dp B b (.pointer (some ⟨b, 0, none⟩)) bs w

theorem PrAt.cell0 {dp : Int} {B b : Nat} {p : Value} {bs : List Value} {w : World} (h : PrAt dp B b p bs w) : w.cell? ⟨b, 0, none⟩ = some p := by
  obtain ⟨_, v, hb, _⟩ := h
  simp [World.cell?, hb]
theorem PrAt.shape {dp : Int} {B b : Nat} {p : Value} {bs : List Value} {w : World} (h : PrAt dp B b p bs w) : w.shape? b = some (111, 3) := by
  obtain ⟨_, v, hb, _⟩ := h
  simp [World.shape?, hb]
theorem PrAt.lt {dp : Int} {B b : Nat} {p : Value} {bs : List Value} {w : World} (h : PrAt dp B b p bs w) : b < w.heap.size := by
  obtain ⟨_, v, hb, _⟩ := h
  rcases Nat.lt_or_ge b w.heap.size with h' | h'
  · exact h'
  · simp [Array.getElem?_eq_none h'] at hb
theorem PrAt.used {dp : Int} {B b : Nat} {p : Value} {bs : List Value} {w : World} (h : PrAt dp B b p bs w) (q : Value) : PrAt dp B b q bs (w.setCell ⟨b, 0, none⟩ q) := by
  obtain ⟨hB, v, hb, hown, hne⟩ := h
  refine ⟨hB, v, ?_, ?_, hne⟩
  · simp [World.setCell, Array.getElem?_modify, hb]
  · refine hown.kept (row := some b) ⟨rfl, rfl, rfl, by simp [World.setCell], fun k _ hk => Below.heap_setCell _ _ _ _ (fun e => hk (by simp [e]))⟩ ?_
    exact Or.inr hne
theorem PrAt.frozen0 {dp : Int} {B b : Nat} {p : Value} {bs : List Value} {w : World} (h : PrAt dp B b p bs w) : w.frozen? ⟨b, 0, none⟩ = false := by
  obtain ⟨_, v, hb, _⟩ := h
  simp [World.frozen?, hb]
theorem PrAt.put {dp : Int} {B b : Nat} {p v v' : Value} {bs' : List Value} {w : World} (hB : B ≤ b) (hb : w.heap[b]? = some (.cells #[p, v, .int .i64 dp] 111 (0, 0))) (hown : w.ownsRowF B 5 1 v' bs'.length bs') :
    PrAt dp B b p bs' (w.setCell ⟨b, 1, none⟩ v') := by
  have hne := Lib.ownBlock_neF hown hb (by decide)
  refine ⟨hB, v', ?_, ?_, hne⟩
  · simp [World.setCell, Array.getElem?_modify, hb]
  · exact hown.kept (row := some b) ⟨rfl, rfl, rfl, by simp [World.setCell], fun k _ hk => Below.heap_setCell _ _ _ _ (fun e => hk (by simp [e]))⟩ (Or.inr hne)
theorem PrAt.alloc {dp : Int} {B b : Nat} {p : Value} {bs : List Value} {w : World} (h : PrAt dp B b p bs w) (o : Obj) : PrAt dp B b p bs (w.alloc o) := by
  have hlt := h.lt
  obtain ⟨hB, v, hb, hown, hne⟩ := h
  exact ⟨hB, v, (Lib.alloc_old w o b hlt).trans hb, hown.kept (World.grownBy_alloc w o none) (by cases hv : v.ownBlock <;> simp), hne⟩
theorem PrAt.below {dp : Int} {B b : Nat} {p : Value} {bs : List Value} {w w' : World} (h : PrAt dp B b p bs w) (hb' : Below w.heap.size w w') : PrAt dp B b p bs w' := by
  have hlt := h.lt
  obtain ⟨hB, v, hb, hown, hne⟩ := h
  exact ⟨hB, v, (hb'.block b hlt).trans hb, hown.kept (row := none) ⟨hb'.os, hb'.tape, hb'.output, hb'.size, fun k hk _ => hb'.block k hk⟩ (by cases v.ownBlock <;> simp), hne⟩
theorem IsPr.lt {dp : Int} {B b : Nat} {bs : List Value} {w : World} (h : IsPr dp B b bs w) : b < w.heap.size := h.elim PrAt.lt PrAt.lt
theorem IsPr.alloc {dp : Int} {B b : Nat} {bs : List Value} {w : World} (h : IsPr dp B b bs w) (o : Obj) : IsPr dp B b bs (w.alloc o) := h.elim (fun x => .inl (x.alloc o)) (fun x => .inr (x.alloc o))
theorem IsPr.below {dp : Int} {B b : Nat} {bs : List Value} {w w' : World} (h : IsPr dp B b bs w) (hb' : Below w.heap.size w w') : IsPr dp B b bs w' := h.elim (fun x => .inl (x.below hb')) (fun x => .inr (x.below hb'))

theorem Tryz.info109 : (Tryz.prog.info? 109).map (fun i => i.size) = some 2 := by kernel_rfl
theorem Tryz.lies109 : liesAt Tryz.prog Tryz.prog.depth 111 (3 / Tryz.prog.cellsOf 111) 0 109 1 = true := by kernel_rfl
theorem Tryz.info5 : (Tryz.prog.info? 5).map (fun i => (i.zero, i.size, i.bytes)) = some (some (.int .u8 0), 1, 1) := by kernel_rfl
theorem noEscape_run (x : Value) (w : World) : Sem.run Tryz.prog (callFunc 99 #[x]) w = Result.ok (.value x) w := by
  rw [run_callFunc_extern Tryz.func99 (by kernel_rfl) (by kernel_rfl) (by kernel_rfl) (e := Extern.AbiNoEscape.same) (by kernel_rfl), Lib.run_noEscape]
  rfl

set_option maxRecDepth 100000 in
set_option maxHeartbeats 1000000 in
theorem check_fresh (b : Nat) (w : World) (h0 : w.cell? ⟨b, 0, none⟩ = some (.pointer none)) (hsh : w.shape? b = some (111, 3)) (hfz : w.frozen? ⟨b, 0, none⟩ = false) :
    Calls Tryz.prog 95 #[.pointer (some ⟨b, 0, none⟩)] w fun e w' => e = .returned (.tuple #[]) ∧ w' = w.setCell ⟨b, 0, none⟩ (.pointer (some ⟨b, 0, none⟩)) := by
  obtain ⟨j, hj, hjs⟩ := Option.map_eq_some_iff.1 Tryz.info109
  have k1 := Lib.run_to_unsafe (P := Tryz.prog) (src := 107) (dst := 72) (w := w) ⟨b, 0, none⟩ Tryz.underlying107 Tryz.underlying72 hj (by rw [hjs]; decide) hsh (Nat.zero_lt_succ 2)
  have k2 := Lib.run_from_unsafe (P := Tryz.prog) (src := 72) (dst := 107) (w := w) ⟨b, 0, none⟩ Tryz.underlying72 Tryz.underlying107 hj hsh Tryz.lies109
  have k3 := noEscape_run (.pointer (some ⟨b, 0, none⟩)) w
  go_enter Tryz.func95, Tryz.ntmps95
  go_wp2
  go_end0
  exact ⟨rfl, rfl⟩
set_option maxRecDepth 100000 in
set_option maxHeartbeats 1000000 in
theorem check_used (b : Nat) (w : World) (h0 : w.cell? ⟨b, 0, none⟩ = some (.pointer (some ⟨b, 0, none⟩))) :
    Calls Tryz.prog 95 #[.pointer (some ⟨b, 0, none⟩)] w fun e w' => e = .returned (.tuple #[]) ∧ w' = w := by
  obtain ⟨j, hj, _⟩ := Option.map_eq_some_iff.1 Tryz.info109
  have k4 := Lib.run_neq_ptr_same (P := Tryz.prog) w ⟨b, 0, none⟩ Tryz.underlying107 hj
  go_enter Tryz.func95, Tryz.ntmps95
  go_wp2
  go_end0
  exact ⟨rfl, rfl⟩
/-- copyCheck at a printer, fresh or used. -/
theorem check_any (dp : Int) (B b : Nat) (bs : List Value) (w : World) (h : IsPr dp B b bs w) :
    Calls Tryz.prog 95 #[.pointer (some ⟨b, 0, none⟩)] w fun e w' => e = .returned (.tuple #[]) ∧ (PrAt dp B b (.pointer (some ⟨b, 0, none⟩)) bs w' ∧ Below B w w' ∧ Lib.OthersKept 5 (some b) w w') := by
  rcases h with h | h
  · refine (check_fresh b w h.cell0 h.shape h.frozen0).mono ?_
    rintro e w' ⟨rfl, rfl⟩
    exact ⟨rfl, h.used _, (Below.refl B w).setCell (p := ⟨b, 0, none⟩) h.1 _, (Lib.OthersKept.refl _ _ w).setCell ⟨b, 0, none⟩ rfl _⟩
  · refine (check_used b w h.cell0).mono ?_
    rintro e w' ⟨rfl, rfl⟩
    exact ⟨rfl, h, Below.refl B _, Lib.OthersKept.refl _ _ _⟩

set_option maxRecDepth 100000 in
set_option maxHeartbeats 2000000 in
theorem writeString_any (dp : Int) (B b : Nat) (bs : List Value) (s : ByteArray) (w : World) (h : IsPr dp B b bs w) (hlen : bs.length + s.size ≤ 140737488355328) (hBw : B ≤ w.heap.size) :
    Calls Tryz.prog 89 #[.pointer (some ⟨b, 0, none⟩), .string s] w fun e w' => e = .returned (.tuple #[.int .i64 s.size, .nilIface]) ∧ (PrAt dp B b (.pointer (some ⟨b, 0, none⟩)) (bs ++ Lib.strCells s) w' ∧ Below B w w' ∧ Lib.OthersKept 5 (some b) w w') := by
  obtain ⟨i0, hi, hz⟩ := Option.map_eq_some_iff.1 Tryz.info5
  simp only [Prod.mk.injEq] at hz
  obtain ⟨hz0, hz1, hz2⟩ := hz
  go_enter Tryz.func89, Tryz.ntmps89
  go_wp2_with (go_at_call 95; refine (check_any dp B b bs _ h).mono ?_)
  rintro e w1 ⟨rfl, h1, hb1, hk1⟩
  obtain ⟨hB, v, hbk, hown, hne⟩ := h1
  have c0 : w1.cell? ⟨b, 0, none⟩ = some (.pointer (some ⟨b, 0, none⟩)) := by rw [Lib.cell_of_heap hbk]; rfl
  have c1 : w1.cell? ⟨b, 1, none⟩ = some v := by rw [Lib.cell_of_heap hbk]; rfl
  go_wp2_with (at_builtin; refine Lib.wpList_append_own_stringF _ rfl _ _ 22 9 rfl B 5 i0 Tryz.underlying22 Tryz.underlying9 hi hz0 hz1 hz2 _ _ _ rfl hown s rfl ?c3 ?c4 ?c5 ?_)
  case c3 => unfold maxLen; omega
  case c4 => omega
  case c5 => have := hb1.size; omega
  intro v' w2 hown' hgrow _
  have hlt : b < w1.heap.size := by
    rcases Nat.lt_or_ge b w1.heap.size with h' | h'
    · exact h'
    · simp [Array.getElem?_eq_none h'] at hbk
  have hb2 : w2.heap[b]? = some (.cells #[.pointer (some ⟨b, 0, none⟩), v, .int .i64 dp] 111 (0, 0)) := by
    rw [hgrow.block b hlt (fun e => hne e.symm)]
    exact hbk
  have d1 : w2.cell? ⟨b, 1, none⟩ = some v := by rw [Lib.cell_of_heap hb2]; rfl
  have f1 : w2.frozen? ⟨b, 1, none⟩ = false := Lib.frozen_of_heap hb2 1
  obtain ⟨ao, n', cap, rfl⟩ : ∃ ao n' cap, v' = .slice ao n' cap := by
    rcases hown'.2 with ⟨hv, _⟩ | ⟨g, cap, cur, fz, hv, _⟩
    · exact ⟨_, _, _, hv⟩
    · exact ⟨_, _, _, hv⟩
  go_wp2
  go_ret2
  refine ⟨rfl, ?_, ?_, (hk1.grown hgrow (Lib.ownsRowF_kind hown)).setCell ⟨b, 1, none⟩ rfl _⟩
  · exact PrAt.put hB hb2 (bs' := bs ++ Lib.strCells s) (by simpa [Lib.strCells_length] using hown')
  · exact (hb1.grown hgrow (by have := hb1.size; omega) (fun k hk => (hown.lt k hk).1)).setCell (p := ⟨b, 1, none⟩) hB _
end Go.Proofs.YtpebfdplapeejaaGreatDoor
namespace Go.Proofs.YtpebfdplapeejaaGreatDoor
open Go.RowKit

theorem Tryz.cells5 : Tryz.prog.cellsOf 5 = 1 := by kernel_rfl

set_option maxHeartbeats 2000000 in
set_option maxRecDepth 100000 in
theorem string_any (dp : Int) (B b : Nat) (l : List UInt8) (w : World) (h : IsPr dp B b (Lib.byteCells l) w) (h0 : l ≠ []) :
    Calls Tryz.prog 68 #[.pointer (some ⟨b, 0, none⟩)] w fun e w' => e = .returned (.string ⟨l.toArray⟩) ∧ Below B w w' := by
  obtain ⟨p, hAt⟩ : ∃ p, PrAt dp B b p (Lib.byteCells l) w := h.elim (fun h => ⟨_, h⟩) (fun h => ⟨_, h⟩)
  obtain ⟨hB, v, hbk, hown, hne⟩ := hAt
  have hl0 : l.length ≠ 0 := by simpa using h0
  rw [Lib.byteCells_length] at hown
  obtain ⟨g, cap, cur, fz, rfl, hbg, hg, hfz, hnc, hcm, hcs, htake⟩ : ∃ g cap cur fz, v = .slice (some ⟨g, 0, none⟩) l.length cap ∧ B ≤ g ∧ w.heap[g]? = some (.cells cur 5 fz) ∧ fz.2 ≤ l.length * 1 ∧ l.length ≤ cap ∧ cap ≤ maxLen ∧ cur.size = cap * 1 ∧ cur.toList.take (l.length * 1) = Lib.byteCells l := by
    rcases hown.2 with ⟨_, hz⟩ | ⟨g, cap, cur, fz, hv, r⟩
    · exact absurd hz hl0
    · exact ⟨g, cap, cur, fz, hv, r⟩
  have c1 : w.drew.cell? ⟨b, 1, none⟩ = some (.slice (some ⟨g, 0, none⟩) l.length cap) := by
    have : w.drew.heap[b]? = some (.cells #[p, .slice (some ⟨g, 0, none⟩) l.length cap, .int .i64 dp] 111 (0, 0)) := hbk
    rw [Lib.cell_of_heap this]; rfl
  have hSD : (Builtin.unsafeSliceData_ #[22] 85 #[.slice (some ⟨g, 0, none⟩) l.length cap]).run Tryz.prog w.drew = .ok (.pointer (some ⟨g, 0, none⟩)) w.drew :=
    Lib.run_unsafeSliceData_row _ _ _ _ _ _ (by omega)
  have hUS : (Builtin.unsafeString_ #[85, 3] 9 #[.pointer (some ⟨g, 0, none⟩), .int .i64 l.length]).run Tryz.prog w.drew = .ok (.string ⟨l.toArray⟩) (w.drew.freeze ⟨g, 0, none⟩ l.length) := by
    refine Lib.run_unsafeString_row w.drew 85 3 9 5 Tryz.underlying85 Tryz.cells5 g cur.size (by have hg' : w.drew.heap[g]? = some (.cells cur 5 fz) := hg; simp [World.shape?, hg']) l h0 (by omega) (by unfold maxLen at hcm; omega) ?_
    intro j x hx
    have := hown.cells (g := g) rfl j (.int .u8 x.toNat) (by simp [Lib.byteCells, hx])
    exact this
  have mixed : Tryz.prog.follows Departure.mixedOrders = true := by kernel_rfl
  go_enter Tryz.func68, Tryz.ntmps68
  go_wp2
  go_region_o
  all_goals (go_wp2; go_ret; exact ⟨rfl, Lib.below_freeze (Below.drew (Below.refl B w)) (p := ⟨g, 0, none⟩) hbg _⟩)

def cat (ts : List ByteArray) : List UInt8 := ts.flatMap fun t => t.data.toList

theorem strCells_bytes (s : ByteArray) : Lib.strCells s = Lib.byteCells s.data.toList := by
  simp [Lib.strCells, Lib.byteCells]
theorem byteCells_append (a b : List UInt8) : Lib.byteCells (a ++ b) = Lib.byteCells a ++ Lib.byteCells b := by simp [Lib.byteCells]
theorem cat_take {ts : List ByteArray} {i : Nat} {x : ByteArray} (h : ts[i]? = some x) : cat (ts.take (i + 1)) = cat (ts.take i) ++ x.data.toList := by
  unfold cat
  rw [List.take_add_one, h]
  simp
theorem cat_take_le (ts : List ByteArray) (i : Nat) : (cat (ts.take i)).length ≤ (cat ts).length := by
  have : cat ts = cat (ts.take i) ++ cat (ts.drop i) := by
    unfold cat
    rw [← List.flatMap_append, List.take_append_drop]
  rw [this, List.length_append]
  omega

set_option maxRecDepth 100000 in
set_option maxHeartbeats 1600000 in
theorem put_any (dp : Int) (B b : Nat) (l : List UInt8) (ts : List ByteArray) (tb : Nat) (w : World) (h : IsPr dp B b (Lib.byteCells l) w) (hlen : l.length + (cat ts).length ≤ 140737488355328) (hn : ts.length ≤ 1000) (hBw : B ≤ w.heap.size) (ht : ∃ cs, w.heap[tb]? = some (.cells cs 9 (0, 0)) ∧ ∀ (i : Nat) (x : ByteArray), ts[i]? = some x → cs[i]? = some (.string x)) :
    Calls Tryz.prog 79 #[.pointer (some ⟨b, 0, none⟩), .slice (some ⟨tb, 0, none⟩) ts.length ts.length] w fun e w' => e = .returned (.tuple #[]) ∧ (IsPr dp B b (Lib.byteCells (l ++ cat ts)) w' ∧ Below B w w' ∧ Lib.OthersKept 5 (some b) w w') := by
  have hnb : tb ≠ b := by
    rintro rfl
    obtain ⟨cs, hcs, _⟩ := ht
    rcases h with ⟨_, v, hv, _⟩ | ⟨_, v, hv, _⟩
    · rw [hcs] at hv; simp at hv
    · rw [hcs] at hv; simp at hv
  have H := mkHid h
  have HT := mkHid ht
  have HL := mkHid hlen
  clear h ht hlen
  go_enter Tryz.func79, Tryz.ntmps79
  go_wp2
  go_loopw [8] (fun i w' => ∃ (j : Nat), j ≤ ts.length ∧ i = .int .i64 j ∧ IsPr dp B b (Lib.byteCells (l ++ cat (ts.take j))) w' ∧ Below B w w' ∧ Lib.OthersKept 5 (some b) w w') (fun i _ => ts.length - (intOf i).toNat)
  case atStart => exact ⟨0, Nat.zero_le _, rfl, by simpa [cat] using H.out, Below.refl _ _, Lib.OthersKept.refl _ _ _⟩
  case round =>
    obtain ⟨j, hj, rfl, h1, h2, h3⟩ := hrel
    have H1 := mkHid h1
    have H2 := mkHid h2
    have H3 := mkHid h3
    clear h1 h2 h3
    by_cases hlt : j < ts.length
    · obtain ⟨x, hx⟩ : ∃ x, ts[j]? = some x := ⟨_, List.getElem?_eq_getElem hlt⟩
      have hcell : wr.cell? ⟨tb, j, none⟩ = some (.string x) := by
        obtain ⟨cs, hcs, hall⟩ := HT.out
        have hk := H3.out tb _ hcs (by simpa using hnb) (by simp)
        simp [World.cell?, hk, hall j x hx]
      have HX := mkHid (cat_take hx)
      have hsz := H2.out.size
      have HW := mkHid (writeString_any dp B b _ x wr H1.out (by
        have h4 := HX.out
        have h5 := cat_take_le ts (j + 1)
        have h6 := HL.out
        have h7 : x.data.toList.length = x.size := (Lib.size_eq x).symm
        rw [h4, List.length_append] at h5
        rw [Lib.byteCells_length, List.length_append]
        omega) (by omega))
      clear hx
      go_wp2_with fail
      refine HW.out.mono ?_
      rintro e w1 ⟨rfl, h1, h2, h3⟩
      have K1 : Hid (IsPr dp B b (Lib.byteCells (l ++ cat (ts.take (j + 1)))) w1) := mkHid (by
        rw [HX.out, ← List.append_assoc, byteCells_append, ← strCells_bytes]
        exact .inr h1)
      have K2 := mkHid (H2.out.trans h2)
      have K3 := mkHid (H3.out.trans h3)
      clear h1 h2 h3
      go_wp2
      go_roundw
      case rel => exact ⟨j + 1, by omega, by go_num, K1.out, K2.out, K3.out⟩
      case measure => simp [intOf]; omega
    · have e : ts.take j = ts := List.take_of_length_le (by omega)
      rw [e] at H1
      go_wp2
      go_end0
      exact ⟨rfl, H1.out, H2.out, H3.out⟩
end Go.Proofs.YtpebfdplapeejaaGreatDoor
namespace Go.Proofs.YtpebfdplapeejaaGreatDoor
open Go.RowKit
open Pl

set_option maxRecDepth 100000 in
set_option maxHeartbeats 800000 in
theorem ties_any (k : Int) (w : World) : Calls Tryz.prog 94 #[.int .i64 k] w fun e w' => e = .returned (.int .i64 (tightI k - 1)) ∧ w = w' := by
  by_cases h6 : k = 6
  · subst h6
    go_enter Tryz.func94, Tryz.ntmps94
    go_wp2
    go_ret
    exact ⟨rfl, rfl⟩
  by_cases h7 : k = 7
  · subst h7
    go_enter Tryz.func94, Tryz.ntmps94
    go_wp2
    go_ret
    exact ⟨rfl, rfl⟩
  by_cases h8 : k = 8
  · subst h8
    go_enter Tryz.func94, Tryz.ntmps94
    go_wp2
    go_ret
    exact ⟨rfl, rfl⟩
  rw [show tightI k - 1 = 2 by simp [tightI, h6, h7, h8]]
  go_enter Tryz.func94, Tryz.ntmps94
  go_wp2
  go_ret
  exact ⟨rfl, rfl⟩

/-- The form of an expression or condition, by its kind. -/
def formVal (k : Int) : Value :=
  if k = 6 then .agg #[.string ⟨#[43]⟩] else if k = 7 then .agg #[.string ⟨#[45]⟩] else if k = 8 then .agg #[.string ⟨#[42]⟩] else
  if 11 ≤ k ∧ k ≤ 16 then .agg #[.string (signI k)] else .agg #[]
set_option maxRecDepth 100000 in
set_option maxHeartbeats 1600000 in
theorem formOf_val (k : Int) (w : World) (h : 1 ≤ k ∧ k ≤ 8 ∨ 11 ≤ k ∧ k ≤ 16) : Calls Tryz.prog 76 #[.int .i64 k] w fun e w' => e = .returned (.iface (typI k) (formVal k)) ∧ w = w' := by
  rcases (by omega : k = 1 ∨ k = 2 ∨ k = 3 ∨ k = 4 ∨ k = 5 ∨ k = 6 ∨ k = 7 ∨ k = 8 ∨ k = 11 ∨ k = 12 ∨ k = 13 ∨ k = 14 ∨ k = 15 ∨ k = 16) with rfl | rfl | rfl | rfl | rfl | rfl | rfl | rfl | h'
  iterate 8 (focus (go_enter Tryz.func76, Tryz.ntmps76; go_wp2; go_ret; exact ⟨rfl, rfl⟩))
  rcases h' with rfl | rfl | rfl | rfl | rfl | rfl
  · go_enter Tryz.func76, Tryz.ntmps76
    go_wp2_with fail
    refine (condSign_any 11 _).mono ?_
    rintro e w1 ⟨rfl, rfl⟩
    rw [show signI 11 = ⟨#[60]⟩ from rfl]
    go_wp2
    go_ret
    exact ⟨rfl, rfl⟩
  · go_enter Tryz.func76, Tryz.ntmps76
    go_wp2_with fail
    refine (condSign_any 12 _).mono ?_
    rintro e w1 ⟨rfl, rfl⟩
    rw [show signI 12 = ⟨#[60, 61]⟩ from rfl]
    go_wp2
    go_ret
    exact ⟨rfl, rfl⟩
  · go_enter Tryz.func76, Tryz.ntmps76
    go_wp2_with fail
    refine (condSign_any 13 _).mono ?_
    rintro e w1 ⟨rfl, rfl⟩
    rw [show signI 13 = ⟨#[62]⟩ from rfl]
    go_wp2
    go_ret
    exact ⟨rfl, rfl⟩
  · go_enter Tryz.func76, Tryz.ntmps76
    go_wp2_with fail
    refine (condSign_any 14 _).mono ?_
    rintro e w1 ⟨rfl, rfl⟩
    rw [show signI 14 = ⟨#[62, 61]⟩ from rfl]
    go_wp2
    go_ret
    exact ⟨rfl, rfl⟩
  · go_enter Tryz.func76, Tryz.ntmps76
    go_wp2_with fail
    refine (condSign_any 15 _).mono ?_
    rintro e w1 ⟨rfl, rfl⟩
    rw [show signI 15 = ⟨#[61, 61]⟩ from rfl]
    go_wp2
    go_ret
    exact ⟨rfl, rfl⟩
  · go_enter Tryz.func76, Tryz.ntmps76
    go_wp2_with fail
    refine (condSign_any 16 _).mono ?_
    rintro e w1 ⟨rfl, rfl⟩
    rw [show signI 16 = ⟨#[33, 61]⟩ from rfl]
    go_wp2
    go_ret
    exact ⟨rfl, rfl⟩

/-- What stands around the printer: the tree's world, the table of powers of ten. -/
structure Around (W0 : World) (dp : Int) (B b : Nat) (l : List UInt8) (w : World) : Prop where
  pr : IsPr dp B b (Lib.byteCells l) w
  old : Below W0.heap.size W0 w
  lo : W0.heap.size ≤ B
  hi : B ≤ w.heap.size
  tab : Lib.TabIs Tryz.prog W0 "internal/strconv.uint64pow10" .u64 Lib.pow10Tab

def Wrote (dp : Int) (B b : Nat) (l : List UInt8) (w : World) (e : Ending) (w' : World) : Prop :=
  e = .returned (.tuple #[]) ∧ IsPr dp B b (Lib.byteCells l) w' ∧ Below B w w' ∧ Lib.OthersKept 5 (some b) w w'

theorem Around.step {W0 : World} {dp : Int} {B b : Nat} {l l' : List UInt8} {w w' : World} (h : Around W0 dp B b l w) (hp : IsPr dp B b (Lib.byteCells l') w') (hb : Below B w w') : Around W0 dp B b l' w' :=
  ⟨hp, h.old.trans (hb.mono h.lo), h.lo, Nat.le_trans h.hi hb.size, h.tab⟩
theorem Around.alloc {W0 : World} {dp : Int} {B b : Nat} {l : List UInt8} {w : World} (h : Around W0 dp B b l w) (o : Obj) : Around W0 dp B b l (w.alloc o) :=
  ⟨h.pr.alloc o, h.old.alloc (Nat.le_trans h.lo h.hi) o, h.lo, Nat.le_trans h.hi (by simp), h.tab⟩
end Go.Proofs.YtpebfdplapeejaaGreatDoor
