/-
  A ROW AS A LIST OF LINKS IN MEMORY; CONTRACTS of the program's number, isOneNumber.
-/
import Derived.Test.YtbfmljogfljhdaaGreatNv
import Derived.Test.YtbfmljogfljhdaaGreatVh
import Derived.Laws.EntriesVeiled
namespace Go.Proofs.YtbfmljogfljhdaaGreat
open Go.RowKit

structure Lk where
  b : List Y
  v : VV
  m : Bool
/-- A link lies in a block of its own; the next one is p. -/
structure LinkAt (w : World) (X : Nat) (k : Lk) (p : Option Addr) : Prop where
  mem : ∃ ao cap, w.cell? ⟨X, 0, none⟩ = some (.slice ao k.b.length cap) ∧ At eY w ao k.b
  f : w.cell? ⟨X, 1, none⟩ = some (.func (.func 101) #[] #[])
  v0 : w.cell? ⟨X, 2, none⟩ = some (.int .i64 k.v.1)
  v1 : w.cell? ⟨X, 3, none⟩ = some (.int .i64 k.v.2.1)
  v2 : w.cell? ⟨X, 4, none⟩ = some (.bool k.v.2.2)
  m : w.cell? ⟨X, 5, none⟩ = some (.bool k.m)
  nx : w.cell? ⟨X, 6, none⟩ = some (.pointer p)
theorem LinkAt.lt {w : World} {X : Nat} {k : Lk} {p : Option Addr} (h : LinkAt w X k p) : X < w.heap.size := World.block_lt_of_cell? w _ h.f
theorem LinkAt.below {w w' : World} {X : Nat} {k : Lk} {p : Option Addr} (h : LinkAt w X k p) (hb : Below w.heap.size w w') : LinkAt w' X k p := by
  obtain ⟨hc, _⟩ := bcell hb
  have hl := h.lt
  obtain ⟨ao, cap, h1, h2⟩ := h.mem
  exact ⟨⟨ao, cap, (hc _ _ hl).trans h1, h2.below hb⟩, (hc _ _ hl).trans h.f, (hc _ _ hl).trans h.v0, (hc _ _ hl).trans h.v1, (hc _ _ hl).trans h.v2, (hc _ _ hl).trans h.m, (hc _ _ hl).trans h.nx⟩
/-- A row: link behind link. -/
def Chain (w : World) : Nat → List Lk → Prop
  | _, [] => False
  | X, [k] => LinkAt w X k none
  | X, k :: k' :: r => ∃ X', LinkAt w X k (some ⟨X', 0, none⟩) ∧ Chain w X' (k' :: r)
theorem Chain.below {w w' : World} (hb : Below w.heap.size w w') : ∀ {ks : List Lk} {X : Nat}, Chain w X ks → Chain w' X ks
  | [], _, h => h
  | [_], _, h => LinkAt.below h hb
  | _ :: _ :: _, _, ⟨X', h1, h2⟩ => ⟨X', h1.below hb, Chain.below hb h2⟩
theorem Chain.head {w : World} {k : Lk} {r : List Lk} {X : Nat} (h : Chain w X (k :: r)) : ∃ p, LinkAt w X k p := by
  cases r with
  | nil => exact ⟨none, h⟩
  | cons k' r => obtain ⟨X', h1, _⟩ := h; exact ⟨_, h1⟩
/-- The number of a bound. -/
def numB (l : List Int) (b : List Y) : Int := valY l (b.headD (0, 0))
structure OneP (l : List Int) (b : List Y) : Prop where
  each : ∀ p, p ∈ b → valY l p = numB l b
theorem numB_bound {l : List Int} {b : List Y} (hv : VP l) (hb : ∀ p, p ∈ b → InS l.length p) (hne : b ≠ []) : -1001000 ≤ numB l b ∧ numB l b ≤ 1001000 := by
  cases b with
  | nil => exact absurd rfl hne
  | cons p b =>
    obtain ⟨x, _, h2, h3, h4⟩ := hv.bound (hb p (by simp))
    have h5 := (hb p (by simp)).c1
    have h6 := (hb p (by simp)).c2
    show -1001000 ≤ valY l p ∧ valY l p ≤ 1001000
    omega
set_option maxRecDepth 100000 in
set_option maxHeartbeats 1600000 in
theorem number_any (l : List Int) (a : Option Addr) (c : Nat) (X : Nat) (k : Lk) (p : Option Addr) (w : World) (hv : VP l) (hl : At eI w a l) (hne : k.b ≠ []) (hin : ∀ q, q ∈ k.b → InS l.length q) (hk : LinkAt w X k p) :
    Calls Tryz.prog 93 #[.pointer (some ⟨X, 0, none⟩), .slice a l.length c] w fun e w' => e = .returned (.int .i64 (numB l k.b)) ∧ Below w.heap.size w w' := by
  obtain ⟨x, hx⟩ : ∃ x, k.b[0]? = some x := ⟨_, List.getElem?_eq_getElem (by cases hb : k.b with | nil => exact absurd hb hne | cons y r => simp)⟩
  have hnum : numB l k.b = valY l x := by unfold numB; cases hb : k.b with | nil => exact absurd hb hne | cons y r => (rw [hb] at hx; simp at hx; subst hx; rfl)
  obtain ⟨z, hz⟩ : ∃ z, valY l x = z := ⟨_, rfl⟩
  have HC : Hid (∀ v : World, At eI v a l → Calls Tryz.prog 117 #[.agg #[.int .i64 x.1, .int .i64 x.2], .slice a l.length c] v fun e v' => e = .returned (.tuple #[.int .i64 z, .bool true]) ∧ Below v.heap.size v v') := mkHid fun v h => by rw [← hz]; exact symVal_yes x l a c v hv (hin x (List.mem_of_getElem? hx)) h
  rw [hnum, hz]
  obtain ⟨ao, cap, q0, hat⟩ := hk.mem
  have hbl : 0 < k.b.length := (List.getElem?_eq_some_iff.1 hx).1
  obtain ⟨b, off, rfl, _, hq⟩ := hat.cons hbl
  obtain ⟨c0, c1⟩ := get_y hq hx
  simp only [Nat.zero_mul, Nat.add_zero] at c0 c1
  have HL := mkHid hl
  have i0 : (0 : Int) < (k.b.length : Int) := by omega
  clear hz hnum hx hin hk hat hq hv hl hne
  go_enter Tryz.func93, Tryz.ntmps93
  go_wp2_with fail
  refine (HC.out _ HL.out).mono ?_
  rintro e w1 ⟨rfl, hb⟩
  have HB := mkHid hb
  clear hb
  go_wp2
  go_ret
  exact ⟨rfl, HB.out⟩
set_option maxRecDepth 100000 in
set_option maxHeartbeats 1600000 in
theorem oneNumber_any (l : List Int) (a : Option Addr) (c : Nat) (X : Nat) (k : Lk) (p : Option Addr) (w : World) (hv : VP l) (hl : At eI w a l) (hne : k.b ≠ []) (hlen : k.b.length ≤ 1048576) (hin : ∀ q, q ∈ k.b → InS l.length q) (hk : LinkAt w X k p) :
    Calls Tryz.prog 92 #[.pointer (some ⟨X, 0, none⟩), .slice a l.length c] w fun e w' => Tells w w' e (OneP l k.b) := by
  obtain ⟨ao, cap, q0, hat⟩ := hk.mem
  have HA := mkHid hat
  have HV := mkHid hv
  have HL := mkHid hl
  have HN := mkHid hne
  have HI := mkHid hin
  have HK := mkHid hk
  clear hat hv hl hne hin hk
  go_enter Tryz.func92, Tryz.ntmps92
  go_wp2
  clear q0
  go_loopg [15] k.b.length (fun g s15 wr => ∃ (i : Nat), i ≤ k.b.length ∧ s15 = .int .i64 i ∧ k.b.length - i ≤ g ∧ (∀ q (x : Y), q < i → k.b[q]? = some x → valY l x = numB l k.b) ∧ Below w.heap.size w wr)
  case atStart => exact ⟨0, Nat.zero_le _, rfl, by omega, fun q x h => by omega, Below.refl _ _⟩
  case round =>
    obtain ⟨i, hi, rfl, hgi, hsy, hbel⟩ := hrel
    have HS := mkHid hsy
    have HB := mkHid hbel
    clear hsy
    by_cases hlt : i < k.b.length
    · obtain ⟨x, hx⟩ : ∃ x, k.b[i]? = some x := ⟨_, List.getElem?_eq_getElem hlt⟩
      obtain ⟨b, off, rfl, _, hq⟩ := (HA.out.below hbel).cons (by omega)
      obtain ⟨c0, c1⟩ := get_y hq hx
      have HX := mkHid hx
      obtain ⟨z, hz⟩ : ∃ z, valY l x = z := ⟨_, rfl⟩
      obtain ⟨y, hy⟩ : ∃ y, numB l k.b = y := ⟨_, rfl⟩
      have HZ := mkHid hz
      have HY := mkHid hy
      clear hq hx hz hy hbel
      have i0 : (0 : Int) ≤ (i : Int) := by omega
      have i1 : (i : Int) < (k.b.length : Int) := by omega
      obtain ⟨wa, hwa⟩ : ∃ z : World, wr.alloc (.cells #[.int .i64 x.1, .int .i64 x.2] 39) = z := ⟨_, rfl⟩
      have BA : Hid (Below wr.heap.size wr wa) := mkHid (by rw [← hwa]; exact bl_alloc (Below.refl _ _) _)
      obtain ⟨R, hR⟩ : ∃ z, wr.heap.size = z := ⟨_, rfl⟩
      obtain ⟨t0, t1, _, _⟩ : Box wa R x.1 x.2 := by rw [← hwa, ← hR]; exact Box.new' _ _ _ _
      have HB1 := mkHid (below_step HB.out BA.out)
      go_wp2_with fail
      clear hwa hR t0 t1 c0 c1
      refine (symVal_yes x l a c _ HV.out (HI.out x (List.mem_of_getElem? HX.out)) (HL.out.below HB1.out)).mono ?_
      rintro e w1 ⟨rfl, hb⟩
      rw [HZ.out]
      have HB2 := mkHid (below_step HB1.out hb)
      clear hb HB1 BA
      go_wp2_with fail
      refine (number_any l a c X k p _ HV.out (HL.out.below HB2.out) HN.out HI.out (HK.out.below HB2.out)).mono ?_
      rintro e w2 ⟨rfl, hb⟩
      rw [HY.out]
      have HB3 := mkHid (below_step HB2.out hb)
      clear hb HB2
      by_cases hzy : z = y
      · have h1 : (z != y) = false := by simp [hzy]
        have HNX : Hid (∀ q (x : Y), q < i + 1 → k.b[q]? = some x → valY l x = numB l k.b) := mkHid fun q u hq hu => (by omega : q < i ∨ q = i).elim (fun h => HS.out q u h hu) (fun h => by subst h; rw [HX.out] at hu; cases hu; rw [HZ.out, HY.out, hzy])
        clear hzy
        go_wp2
        go_roundg (k.b.length - (i + 1))
        case measure => omega
        case rel => exact ⟨i + 1, by omega, by go_num, Nat.le_refl _, HNX.out, HB3.out⟩
      · have h1 : (z != y) = true := by simp [hzy]
        have HNO : Hid (¬ OneP l k.b) := mkHid fun h => hzy (by rw [← HZ.out, ← HY.out]; exact h.each x (List.mem_of_getElem? HX.out))
        clear hzy
        go_wp2
        go_ret
        exact Tells.no HB3.out HNO.out
    · have HSA : Hid (OneP l k.b) := mkHid ⟨fun q hq => by obtain ⟨j, hj, rfl⟩ := List.getElem_of_mem hq; exact HS.out j _ (by omega) (List.getElem?_eq_getElem hj)⟩
      have i1 : ¬ (i : Int) < (k.b.length : Int) := by omega
      clear hbel
      go_wp2
      go_ret
      exact Tells.yes HB.out HSA.out
end Go.Proofs.YtbfmljogfljhdaaGreat
