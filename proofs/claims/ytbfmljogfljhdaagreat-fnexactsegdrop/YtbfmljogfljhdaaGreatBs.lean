/-
  CONTRACTS of slices.BinarySearchFunc over terms and of orderedSet.has.
  CONTRACT of orderedSet.has over terms.
  CONTRACT of orderedSet.without over terms.
  CONTRACTS of slices.Clone over terms and of orderedSet.isEmpty.
  CONTRACT of the specification's l10Without.
-/
import Derived.Test.YtbfmljogfljhdaaGreatSe
import Derived.Test.YtbfmljogfljhdaaGreatFd
namespace Go.Proofs.YtbfmljogfljhdaaGreat
open Go.RowKit

theorem orI_cmpY (p x : Y) : orI (cmpI p.1 x.1) (cmpI p.2 x.2) = cmpY p x := by unfold orI cmpY; split <;> simp_all
theorem pairwise_get {l : List Y} (h : l.Pairwise LtY) {i j : Nat} {p q : Y} (hij : i < j) (hp : l[i]? = some p) (hq : l[j]? = some q) : LtY p q := by
  obtain ⟨h1, rfl⟩ := List.getElem?_eq_some_iff.1 hp
  obtain ⟨h2, rfl⟩ := List.getElem?_eq_some_iff.1 hq
  exact List.pairwise_iff_getElem.1 h i j h1 h2 hij
/-- Where a search stands: all ahead of i are less, none from j on is. -/
structure SeekP (l : List Y) (x : Y) (i j : Nat) : Prop where
  le : i ≤ j
  hi : j ≤ l.length
  lo : ∀ q p, q < i → l[q]? = some p → LtY p x
  up : ∀ q p, j ≤ q → l[q]? = some p → ¬ LtY p x
theorem SeekP.up_step {l : List Y} {x p : Y} {i j h : Nat} (s : SeekP l x i j) (ha : l.Pairwise LtY) (h1 : i ≤ h) (h2 : h < j) (hp : l[h]? = some p) (hl : LtY p x) : SeekP l x (h + 1) j :=
  ⟨h2, s.hi, fun q y hq hy => by
    rcases (by omega : q < h ∨ q = h) with e | e
    · exact (pairwise_get ha e hy hp).trans hl
    · subst e; rw [hp] at hy; cases hy; exact hl, s.up⟩
theorem SeekP.down_step {l : List Y} {x p : Y} {i j h : Nat} (s : SeekP l x i j) (ha : l.Pairwise LtY) (h1 : i ≤ h) (h2 : h < j) (hp : l[h]? = some p) (hl : ¬ LtY p x) : SeekP l x i h :=
  ⟨h1, by have := s.hi; omega, s.lo, fun q y hq hy hn => by
    rcases (by omega : h < q ∨ q = h) with e | e
    · exact hl ((pairwise_get ha e hp hy).trans hn)
    · subst e; rw [hp] at hy; cases hy; exact hl hn⟩
theorem SeekP.found {l : List Y} {x : Y} {i : Nat} (s : SeekP l x i i) (ha : l.Pairwise LtY) : x ∈ l ↔ l[i]? = some x := by
  constructor
  · intro h
    obtain ⟨q, hq, e⟩ := List.getElem_of_mem h
    have hx := List.getElem?_eq_some_iff.2 ⟨hq, e⟩
    rcases (by omega : q < i ∨ q = i ∨ i < q) with g | g | g
    · exact absurd (s.lo q x g hx) (LtY.irrefl x)
    · rw [← g]; exact hx
    · obtain ⟨p, hp⟩ : ∃ p, l[i]? = some p := ⟨_, List.getElem?_eq_getElem (by omega)⟩
      exact absurd (pairwise_get ha g hp hx) (s.up i p (Nat.le_refl _) hp)
  · exact fun h => List.mem_of_getElem? h
set_option maxRecDepth 100000 in
set_option maxHeartbeats 1600000 in
theorem seek_any (l : List Y) (ao : Option Addr) (cap : Nat) (x : Y) (w : World) (hn : l.length ≤ 1048576) (ha : l.Pairwise LtY) (hl : At eY w ao l) :
    Calls Tryz.prog 129 #[.slice ao l.length cap, .agg #[.int .i64 x.1, .int .i64 x.2], .func (.func 101) #[] #[]] w fun e w' => Below w.heap.size w w' ∧ ∃ (i : Int) (r : Bool), e = .returned (.tuple #[.int .i64 i, .bool r]) ∧ (r = true ↔ x ∈ l) := by
  have HA := mkHid ha
  obtain ⟨w0, hw0⟩ : ∃ z : World, w.alloc (.cells #[.int .i64 x.1, .int .i64 x.2] 39) = z := ⟨_, rfl⟩
  obtain ⟨X, hX⟩ : ∃ z, w.heap.size = z := ⟨_, rfl⟩
  have HB : Hid (Below w.heap.size w w0) := mkHid (by rw [← hw0]; exact bl_alloc (Below.refl _ _) _)
  have P0 : Hid (w0.cell? ⟨X, 0, none⟩ = some (.int .i64 x.1) ∧ w0.cell? ⟨X, 1, none⟩ = some (.int .i64 x.2)) := mkHid (by rw [← hw0, ← hX]; exact ⟨by simp [go_sem], by simp [go_sem]⟩)
  have HL := mkHid (hl.below HB.out)
  clear hl ha
  go_enter Tryz.func129, Tryz.ntmps129
  go_wp2
  clear hw0 hX
  go_loopg [9, 10, 11] l.length (fun g s9 s10 s11 wr => ∃ (i j : Nat), SeekP l x i j ∧ s9 = .int .i64 i ∧ s10 = .int .i64 j ∧ j - i ≤ g ∧ Below w0.heap.size w0 wr)
  case atStart => exact ⟨0, l.length, ⟨Nat.zero_le _, Nat.le_refl _, fun q p h => by omega, fun q p h1 h2 => by obtain ⟨h3, _⟩ := List.getElem?_eq_some_iff.1 h2; omega⟩, rfl, rfl, by omega, Below.refl _ _⟩
  case round =>
    obtain ⟨i, j, hs, rfl, rfl, hg, hbel⟩ := hrel
    have HS := mkHid hs
    have HBQ := mkHid hbel
    have hij := hs.le
    have hjl := hs.hi
    have p0 : wr.cell? ⟨X, 0, none⟩ = some (.int .i64 x.1) := (hbel.cell (p := ⟨X, 0, none⟩) (World.block_lt_of_cell? w0 _ P0.out.1)).trans P0.out.1
    have p1 : wr.cell? ⟨X, 1, none⟩ = some (.int .i64 x.2) := (hbel.cell (p := ⟨X, 1, none⟩) (World.block_lt_of_cell? w0 _ P0.out.2)).trans P0.out.2
    clear hs
    by_cases hlt : i < j
    · obtain ⟨h, hh⟩ : ∃ h, (i + j) / 2 = h := ⟨_, rfl⟩
      have hh1 : i ≤ h := by omega
      have hh2 : h < j := by omega
      obtain ⟨p, hp⟩ : ∃ p, l[h]? = some p := ⟨_, List.getElem?_eq_getElem (by omega)⟩
      obtain ⟨b, off, rfl, hlb, hq⟩ := (HL.out.below hbel).cons (by omega)
      obtain ⟨c0, c1⟩ := get_y hq hp
      have HP := mkHid hp
      have hlx := World.block_lt_of_cell? wr _ p0
      have i1 : (i : Int) < (j : Int) := by omega
      have i2 : (h : Int) < (l.length : Int) := by omega
      have i3 : (0 : Int) ≤ (h : Int) := by omega
      have hwa : IntKind.i64.wrap ((i : Int) + (j : Int)) = ((i + j : Nat) : Int) := by rw [IntWalk.i64_in _ (by omega)]; omega
      clear hq hp hbel
      go_wp2
      have hhi : ((i : Int) + (j : Int)) / 2 = (h : Int) := by omega
      rw [hhi]
      clear hhi hwa
      go_region_held3 (fun w' => w'.cell? ⟨b, off + h * 2, none⟩ = some (.int .i64 p.1) ∧ w'.cell? ⟨b, off + h * 2 + 1, none⟩ = some (.int .i64 p.2) ∧ w'.cell? ⟨X, 0, none⟩ = some (.int .i64 x.1) ∧ w'.cell? ⟨X, 1, none⟩ = some (.int .i64 x.2)) (first | exact ⟨c0, c1, p0, p1⟩ | exact ⟨(hc _ _ hlb).trans c0, (hc _ _ hlb).trans c1, (hc _ _ hlx).trans p0, (hc _ _ hlx).trans p1⟩)
        (first | (go_at_call 101; refine (compareSyms_any p.1 p.2 x.1 x.2 _).mono ?_; rintro e w1 ⟨rfl, hb1, _⟩; rw [orI_cmpY]; obtain ⟨hc, hf⟩ := bcell hb1))
      have HB1 : Hid (Below w0.heap.size w0 w1) := mkHid (HBQ.out.drew.trans (hb1.mono HBQ.out.drew.size))
      clear hb1 hc hf c0 c1 p0 p1
      obtain ⟨z, hz⟩ : ∃ z, cmpY p x = z := ⟨_, rfl⟩
      rw [hz]
      have HZ := mkHid hz
      clear hz
      by_cases hz0 : z < 0
      · have HN := mkHid (HS.out.up_step HA.out hh1 hh2 HP.out ((cmpY_lt p x).1 (by rw [HZ.out]; exact hz0)))
        go_wp2
        go_roundg (j - (h + 1))
        case measure => omega
        case rel => exact ⟨h + 1, j, HN.out, by go_num, rfl, Nat.le_refl _, HB1.out⟩
      · have HN := mkHid (HS.out.down_step HA.out hh1 hh2 HP.out (fun g => hz0 (by rw [← HZ.out]; exact (cmpY_lt p x).2 g)))
        go_wp2
        go_roundg (h - i)
        case measure => omega
        case rel => exact ⟨i, h, HN.out, rfl, by first | rfl | trivial, Nat.le_refl _, HB1.out⟩
    · obtain rfl : i = j := by omega
      have HF : Hid (x ∈ l ↔ l[i]? = some x) := mkHid (HS.out.found HA.out)
      have i1 : ¬ (i : Int) < (i : Int) := by omega
      clear hij hlt
      by_cases hil : i < l.length
      · obtain ⟨h, hh⟩ : ∃ h, i = h := ⟨_, rfl⟩
        obtain ⟨p, hp⟩ : ∃ p, l[i]? = some p := ⟨_, List.getElem?_eq_getElem hil⟩
        obtain ⟨b, off, rfl, hlb, hq⟩ := (HL.out.below hbel).cons (by omega)
        obtain ⟨c0, c1⟩ := get_y hq hp
        have HP := mkHid hp
        have hlx := World.block_lt_of_cell? wr _ p0
        have i2 : (i : Int) < (l.length : Int) := by omega
        have i3 : (0 : Int) ≤ (i : Int) := by omega
        clear hq hp hbel hh
        go_wp2
        go_region_held3 (fun w' => w'.cell? ⟨b, off + i * 2, none⟩ = some (.int .i64 p.1) ∧ w'.cell? ⟨b, off + i * 2 + 1, none⟩ = some (.int .i64 p.2) ∧ w'.cell? ⟨X, 0, none⟩ = some (.int .i64 x.1) ∧ w'.cell? ⟨X, 1, none⟩ = some (.int .i64 x.2)) (first | exact ⟨c0, c1, p0, p1⟩ | exact ⟨(hc _ _ hlb).trans c0, (hc _ _ hlb).trans c1, (hc _ _ hlx).trans p0, (hc _ _ hlx).trans p1⟩)
          (first | (go_at_call 101; refine (compareSyms_any p.1 p.2 x.1 x.2 _).mono ?_; rintro e w1 ⟨rfl, hb1, _⟩; rw [orI_cmpY]; obtain ⟨hc, hf⟩ := bcell hb1))
        have HB1 : Hid (Below w0.heap.size w0 w1) := mkHid (HBQ.out.drew.trans (hb1.mono HBQ.out.drew.size))
        clear hb1 hc hf c0 c1 p0 p1
        have HE : Hid ((cmpY p x == 0) = true ↔ x ∈ l) := mkHid (by rw [HF.out, HP.out, beq_iff_eq, cmpY_zero]; constructor <;> (intro h; first | (rw [h]) | exact Option.some.inj h))
        go_wp2
        exact bodyPost_ret (v := .tuple #[.int .i64 i, .bool (cmpY p x == 0)]) (by simp [results, Tryz.results129, go_sem]) rfl ⟨below_step HB.out HB1.out, _, _, rfl, HE.out⟩
      · have i2 : ¬ (i : Int) < (l.length : Int) := by omega
        have HNO : Hid (¬ x ∈ l) := mkHid fun h => by have h1 := HF.out.1 h; obtain ⟨h2, _⟩ := List.getElem?_eq_some_iff.1 h1; omega
        go_wp2
        go_region
        go_wp2
        exact bodyPost_ret (v := .tuple #[.int .i64 i, .bool false]) (by simp [results, Tryz.results129, go_sem]) rfl ⟨below_step HB.out HBQ.out.drew, _, _, rfl, ⟨fun h => (by cases h), fun h => absurd h HNO.out⟩⟩
end Go.Proofs.YtbfmljogfljhdaaGreat
namespace Go.Proofs.YtbfmljogfljhdaaGreat
open Go.RowKit

set_option maxRecDepth 100000 in
set_option maxHeartbeats 1600000 in
theorem setHas_any (l : List Y) (ao : Option Addr) (cap : Nat) (x : Y) (w : World) (hn : l.length ≤ 1048576) (ha : l.Pairwise LtY) (hl : At eY w ao l) :
    Calls Tryz.prog 102 #[.agg #[.slice ao l.length cap, .func (.func 101) #[] #[]], .agg #[.int .i64 x.1, .int .i64 x.2]] w fun e w' => Tells w w' e (x ∈ l) := by
  have HA := mkHid ha
  have HN := mkHid hn
  have HL := mkHid hl
  clear hl ha hn
  obtain ⟨w0, hw0⟩ : ∃ z : World, (w.alloc (.cells #[.slice ao l.length cap, .func (.func 101) #[] #[]] 89)).alloc (.cells #[.int .i64 x.1, .int .i64 x.2] 39) = z := ⟨_, rfl⟩
  obtain ⟨X, hX⟩ : ∃ z, w.heap.size = z := ⟨_, rfl⟩
  have HB : Hid (Below w.heap.size w w0) := mkHid (by rw [← hw0]; exact bl_alloc (bl_alloc (Below.refl _ _) _) _)
  have c0 : w0.cell? ⟨X, 0, none⟩ = some (.slice ao l.length cap) := by rw [← hw0, ← hX]; simp [go_sem]
  have c1 : w0.cell? ⟨X, 1, none⟩ = some (.func (.func 101) #[] #[]) := by rw [← hw0, ← hX]; simp [go_sem]
  have d0 : w0.cell? ⟨X + 1, 0, none⟩ = some (.int .i64 x.1) := by rw [← hw0, ← hX]; simp [go_sem]
  have d1 : w0.cell? ⟨X + 1, 1, none⟩ = some (.int .i64 x.2) := by rw [← hw0, ← hX]; simp [go_sem]
  go_enter Tryz.func102, Tryz.ntmps102
  go_wp2_with fail
  clear hw0 hX c0 c1 d0 d1
  refine (seek_any l ao cap x _ HN.out HA.out (HL.out.below HB.out)).mono ?_
  rintro e w1 ⟨hb, i, r, rfl, hr⟩
  have HB1 := mkHid (below_step HB.out hb)
  have HR := mkHid hr
  clear hb hr
  go_wp2
  go_ret
  exact ⟨HB1.out, r, rfl, HR.out⟩
end Go.Proofs.YtbfmljogfljhdaaGreat
namespace Go.Proofs.YtbfmljogfljhdaaGreat
open Go.RowKit

theorem infoY : (Tryz.prog.info? 39).map (fun i => (i.zero, i.size, i.bytes)) = some (some (.agg #[.int .i64 0, .int .i64 0]), 2, 16) := by kernel_rfl
def outS (l m : List Y) : List Y := l.filter fun p => decide (p ∉ m)
theorem two_new (w : World) (a b : Value) (T : TypeId) (j : Nat) (u : Value) (h : [a, b][j]? = some u) : (w.alloc (.cells #[a, b] T)).cell? ((⟨w.heap.size, 0, none⟩ : Addr).add j) = some u := by
  rw [WideShapes.add_plain, Nat.zero_add, World.cell?_alloc_new]
  simpa using h
/-- The boxes of without: the others, the answer's, what is left. -/
structure WoAt (v : World) (X : Nat) (am : Option Addr) (k cm : Nat) (s : Value) : Prop where
  sz : X + 4 ≤ v.heap.size
  o0 : v.cell? ⟨X + 1, 0, none⟩ = some (.slice am k cm)
  o1 : v.cell? ⟨X + 1, 1, none⟩ = some (.func (.func 101) #[] #[])
  r0 : v.cell? ⟨X + 1 + 1, 0, none⟩ = some (.slice none 0 0)
  r1 : v.cell? ⟨X + 1 + 1, 1, none⟩ = some .nilFunc
  f0 : v.frozen? ⟨X + 1 + 1, 0, none⟩ = false
  f1 : v.frozen? ⟨X + 1 + 1, 1, none⟩ = false
  l0 : v.cell? ⟨X + 1 + 1 + 1, 0, none⟩ = some s
  l1 : v.cell? ⟨X + 1 + 1 + 1, 1, none⟩ = some (.func (.func 101) #[] #[])
  g0 : v.frozen? ⟨X + 1 + 1 + 1, 0, none⟩ = false
  g1 : v.frozen? ⟨X + 1 + 1 + 1, 1, none⟩ = false
theorem WoAt.keep {v v' : World} {X : Nat} {am : Option Addr} {k cm : Nat} {s : Value} (h : WoAt v X am k cm s) (hz : v.heap.size ≤ v'.heap.size) (hb : ∀ q, q < X + 4 → v'.heap[q]? = v.heap[q]?) : WoAt v' X am k cm s := by
  have e1 := hb (X + 1) (by omega)
  have e2 := hb (X + 1 + 1) (by omega)
  have e3 := hb (X + 1 + 1 + 1) (by omega)
  exact ⟨Nat.le_trans h.sz hz, (World.cell?_of_block (a := ⟨X + 1, 0, none⟩) e1).trans h.o0, (World.cell?_of_block (a := ⟨X + 1, 1, none⟩) e1).trans h.o1,
    (World.cell?_of_block (a := ⟨X + 1 + 1, 0, none⟩) e2).trans h.r0, (World.cell?_of_block (a := ⟨X + 1 + 1, 1, none⟩) e2).trans h.r1, (World.frozen?_of_block (a := ⟨X + 1 + 1, 0, none⟩) e2).trans h.f0, (World.frozen?_of_block (a := ⟨X + 1 + 1, 1, none⟩) e2).trans h.f1,
    (World.cell?_of_block (a := ⟨X + 1 + 1 + 1, 0, none⟩) e3).trans h.l0, (World.cell?_of_block (a := ⟨X + 1 + 1 + 1, 1, none⟩) e3).trans h.l1, (World.frozen?_of_block (a := ⟨X + 1 + 1 + 1, 0, none⟩) e3).trans h.g0, (World.frozen?_of_block (a := ⟨X + 1 + 1 + 1, 1, none⟩) e3).trans h.g1⟩
theorem WoAt.below {v v' : World} {X : Nat} {am : Option Addr} {k cm : Nat} {s : Value} (h : WoAt v X am k cm s) (hb : Below v.heap.size v v') : WoAt v' X am k cm s := h.keep hb.size fun q hq => hb.block q (by have := h.sz; omega)
theorem WoAt.put {v : World} {X : Nat} {am : Option Addr} {k cm : Nat} {s : Value} (h : WoAt v X am k cm s) (s' : Value) : WoAt (v.setCell ⟨X + 1 + 1 + 1, 0, none⟩ s') X am k cm s' := by
  obtain ⟨h0, h1, h2, h3, h4, h5, h6, h7, h8, h9, h10⟩ := h
  refine ⟨by simpa [go_sem] using h0, ?_, ?_, ?_, ?_, ?_, ?_, ?_, ?_, ?_, ?_⟩
  all_goals simp [go_sem, *]
theorem outS_yes {l m : List Y} {i : Nat} {x : Y} (hx : l[i]? = some x) (h : x ∈ m) : outS (l.take (i + 1)) m = outS (l.take i) m := by
  obtain ⟨hi, rfl⟩ := List.getElem?_eq_some_iff.1 hx
  unfold outS
  rw [List.take_succ_eq_append_getElem hi, List.filter_append]
  simp [h]
theorem outS_no {l m : List Y} {i : Nat} {x : Y} (hx : l[i]? = some x) (h : x ∉ m) : outS (l.take (i + 1)) m = outS (l.take i) m ++ [x] := by
  obtain ⟨hi, rfl⟩ := List.getElem?_eq_some_iff.1 hx
  unfold outS
  rw [List.take_succ_eq_append_getElem hi, List.filter_append]
  simp [h]
theorem outS_len (l m : List Y) : (outS l m).length ≤ l.length := List.length_filter_le _ _
set_option maxRecDepth 100000 in
set_option maxHeartbeats 3200000 in
theorem without_any (l m : List Y) (ao am : Option Addr) (cap cm : Nat) (w : World) (hn : l.length ≤ 1048576) (hm : m.length ≤ 1048576) (ha : m.Pairwise LtY) (hl : At eY w ao l) (hlm : At eY w am m) :
    Calls Tryz.prog 45 #[.agg #[.slice ao l.length cap, .func (.func 101) #[] #[]], .agg #[.slice am m.length cm, .func (.func 101) #[] #[]]] w fun e w' => Below w.heap.size w w' ∧ ∃ (g : Option Addr) (c : Nat), e = .returned (.agg #[.slice g (outS l m).length c, .func (.func 101) #[] #[]]) ∧ Own eY 39 w' w.heap.size (.slice g (outS l m).length c) (outS l m) := by
  have HA := mkHid ha
  have HM := mkHid hm
  clear ha hm
  obtain ⟨ti, hti, hz⟩ := Option.map_eq_some_iff.1 infoY
  simp only [Prod.mk.injEq] at hz
  obtain ⟨hz0, hz1, hz2⟩ := hz
  have HI := mkHid (show Tryz.prog.info? 39 = some ti ∧ ti.zero = some (.agg #[.int .i64 0, .int .i64 0]) ∧ ti.size = 2 ∧ ti.bytes = 16 from ⟨hti, hz0, hz1, hz2⟩)
  clear hti hz0 hz1 hz2
  obtain ⟨w0, hw0⟩ : ∃ z : World, (((w.alloc (.cells #[.slice ao l.length cap, .func (.func 101) #[] #[]] 89)).alloc (.cells #[.slice am m.length cm, .func (.func 101) #[] #[]] 89)).alloc (.cells #[.slice none 0 0, .nilFunc] 89)).alloc (.cells #[.slice none 0 0, .nilFunc] 89) = z := ⟨_, rfl⟩
  obtain ⟨X, hX⟩ : ∃ z, w.heap.size = z := ⟨_, rfl⟩
  have HX := mkHid hX
  have HB : Hid (Below X w w0) := mkHid (by rw [← hw0, ← hX]; exact bl_alloc (bl_alloc (bl_alloc (bl_alloc (Below.refl _ _) _) _) _) _)
  have q0 : w0.cell? ⟨X, 0, none⟩ = some (.slice ao l.length cap) := by rw [← hw0, ← hX]; simp [go_sem]
  have q1 : w0.cell? ⟨X, 1, none⟩ = some (.func (.func 101) #[] #[]) := by rw [← hw0, ← hX]; simp [go_sem]
  have l0 : w0.cell? ⟨X + 1 + 1 + 1, 0, none⟩ = some (.slice none 0 0) := by rw [← hw0, ← hX]; simp [go_sem]
  have l1 : w0.cell? ⟨X + 1 + 1 + 1, 1, none⟩ = some .nilFunc := by rw [← hw0, ← hX]; simp [go_sem]
  have g0 : w0.frozen? ⟨X + 1 + 1 + 1, 0, none⟩ = false := by rw [← hw0, ← hX]; simp [go_sem]
  have g1 : w0.frozen? ⟨X + 1 + 1 + 1, 1, none⟩ = false := by rw [← hw0, ← hX]; simp [go_sem]
  have HW0 : Hid (WoAt ((w0.setCell ⟨X + 1 + 1 + 1, 0, none⟩ (.slice none 0 0)).setCell ⟨X + 1 + 1 + 1, 1, none⟩ (.func (.func 101) #[] #[])) X am m.length cm (.slice none 0 0)) := mkHid (by
    rw [← hw0, ← hX]
    refine ⟨by simp [go_sem], ?_, ?_, ?_, ?_, ?_, ?_, ?_, ?_, ?_, ?_⟩
    all_goals simp [go_sem])
  have HSZ0 : Hid (w0.heap.size = X + 4) := mkHid (by rw [← hw0, ← hX]; simp)
  have HL := mkHid hl
  have HLM := mkHid hlm
  clear hl hlm
  go_enter Tryz.func45, Tryz.ntmps45
  go_wp2
  clear hw0 hX q0 q1 l0 l1 g0 g1
  go_loopg [14, 7] l.length (fun g s14 s7 wr => ∃ (i : Nat) (a : Option Addr) (c : Nat), i ≤ l.length ∧ s14 = .int .i64 i ∧ l.length - i ≤ g ∧ WoAt wr X am m.length cm (.slice a (outS (l.take i) m).length c) ∧ Own eY 39 wr (X + 4) (.slice a (outS (l.take i) m).length c) (outS (l.take i) m) ∧ Below X w wr)
  case atStart => exact ⟨0, none, 0, Nat.zero_le _, rfl, by omega, HW0.out, Own.nil _ _ _ _, (HB.out.setCell (p := ⟨X + 1 + 1 + 1, 0, none⟩) (by show X ≤ X + 1 + 1 + 1; omega) _).setCell (p := ⟨X + 1 + 1 + 1, 1, none⟩) (by show X ≤ X + 1 + 1 + 1; omega) _⟩
  case round =>
    clear HW0 HB HSZ0
    obtain ⟨i, a, c, hi, rfl, hg, hwo, hown, hbel⟩ := hrel
    have HOW := mkHid hown
    have HBE := mkHid hbel
    have hsz := hwo.sz
    obtain ⟨kk, hkk⟩ : ∃ kk, (outS (l.take i) m).length = kk := ⟨_, rfl⟩
    have hkl : kk ≤ l.length := by rw [← hkk]; exact Nat.le_trans (outS_len _ _) (by simp; omega)
    have HKK := mkHid hkk
    rw [hkk] at hwo
    have HWO := mkHid hwo
    clear hwo hown hkk
    by_cases hlt : i < l.length
    · obtain ⟨x, hx⟩ : ∃ x, l[i]? = some x := ⟨_, List.getElem?_eq_getElem hlt⟩
      obtain ⟨b, off, rfl, _, hq⟩ := (HL.out.below (by rw [HX.out]; exact hbel)).cons (by omega)
      obtain ⟨c0, c1⟩ := get_y hq hx
      have HXX := mkHid hx
      have i0 : (0 : Int) ≤ (i : Int) := by omega
      have i1 : (i : Int) < (l.length : Int) := by omega
      clear hq hx hbel
      obtain ⟨w5, hw5⟩ : ∃ z : World, wr.alloc (.cells #[.int .i64 x.1, .int .i64 x.2] 39) = z := ⟨_, rfl⟩
      obtain ⟨Z, hZ⟩ : ∃ z, wr.heap.size = z := ⟨_, rfl⟩
      have HB5 : Hid (Below wr.heap.size wr w5) := mkHid (by rw [← hw5]; exact bl_alloc (Below.refl _ _) _)
      have D5 : Hid (w5.cell? ⟨Z, 0, none⟩ = some (.int .i64 x.1) ∧ w5.cell? ⟨Z, 1, none⟩ = some (.int .i64 x.2)) := mkHid (by rw [← hw5, ← hZ]; exact ⟨by simp [go_sem], by simp [go_sem]⟩)
      have W5 := mkHid (HWO.out.below HB5.out)
      have O5 := mkHid (HOW.out.below HB5.out)
      have BE5 : Hid (Below X w w5) := mkHid (HBE.out.trans (HB5.out.mono (by omega)))
      have d0 := D5.out.1
      have d1 := D5.out.2
      have o0 := W5.out.o0
      have o1 := W5.out.o1
      go_wp2_with fail
      clear hw5 hZ d0 d1 o0 o1 c0 c1 HWO HOW HBE HB5
      refine (setHas_any m am cm x _ HM.out HA.out (HLM.out.below (by rw [HX.out]; exact BE5.out))).mono ?_
      rintro e w6 ⟨hb, r, rfl, hr⟩
      have HR := mkHid hr
      have W6 := mkHid (W5.out.below hb)
      have O6 := mkHid (O5.out.below hb)
      have BE6 : Hid (Below X w w6) := mkHid (BE5.out.trans (hb.mono (by have := W5.out.sz; omega)))
      have D6 : Hid (w6.cell? ⟨Z, 0, none⟩ = some (.int .i64 x.1) ∧ w6.cell? ⟨Z, 1, none⟩ = some (.int .i64 x.2)) := mkHid (by
        obtain ⟨hc, _⟩ := bcell hb
        have := World.block_lt_of_cell? w5 _ D5.out.1
        exact ⟨(hc _ _ this).trans D5.out.1, (hc _ _ this).trans D5.out.2⟩)
      clear hb hr W5 O5 BE5 D5
      cases hrb : r
      · have HNM : Hid (x ∉ m) := mkHid fun h => by have := HR.out.2 h; rw [hrb] at this; cases this
        subst hrb
        have l0 := W6.out.l0
        have g0 := W6.out.g0
        have d0 := D6.out.1
        have d1 := D6.out.2
        have hz6 := W6.out.sz
        have HO4 : Hid (w6.ownsRow (X + 4) 39 2 (.slice a kk c) kk (eY.flat (outS (l.take i) m))) := mkHid (by have h := O6.out; unfold Own at h; rw [HKK.out] at h; exact h)
        go_wp2_with (at_builtin; refine wpList_append_lies _ rfl _ _ 34 rfl (X + 4) 39 ti (.agg #[.int .i64 0, .int .i64 0]) 2 16 Tryz.underlying34 HI.out.1 HI.out.2.1 HI.out.2.2.1 HI.out.2.2.2 rfl (by decide) _ _ _ rfl (World.ownsRow.alloc HO4.out _) ⟨w6.heap.size, 0, none⟩ 1 1 [.int .i64 x.1, .int .i64 x.2] rfl rfl ?c1 ?c2 (by decide) ?c3 ?c4 ?c5 (w6.heap.size + 1) (by simp) ?_)
        case c1 => exact two_new _ _ _ _
        case c2 => first | rfl | (intro u hu; simp at hu; rcases hu with rfl | rfl <;> rfl) | exact ⟨rfl, rfl⟩
        case c3 => unfold maxLen; omega
        case c4 => omega
        case c5 => first | omega | (simp; omega)
        intro g' c' w7 hown' hgrow hat' _
        have HE := mkHid (outS_no HXX.out HNM.out)
        have HK1 : Hid ((outS (l.take (i + 1)) m).length = kk + 1) := mkHid (by rw [HE.out, List.length_append, HKK.out]; rfl)
        have O7 : Hid (Own eY 39 w7 (X + 4) (.slice (some ⟨g', 0, none⟩) (kk + 1) c') (outS (l.take (i + 1)) m)) := mkHid (by
          unfold Own
          rw [HK1.out, HE.out, El.flat_app]
          exact hown')
        have W7 : Hid (WoAt w7 X am m.length cm (.slice a kk c)) := mkHid ((W6.out.below ((Below.refl _ _).alloc (Nat.le_refl _) _)).keep hgrow.size (fun q hq => hgrow.block q (by simp; omega) (fun e => by have := (World.ownsRow.lt HO4.out q e.symm).1; omega)))
        have BE7 : Hid (Below X w w7) := mkHid ((BE6.out.alloc (by omega) _).grown hgrow (by simp; omega) (fun q hq => by have := (World.ownsRow.lt HO4.out q hq).1; omega))
        clear hown' hgrow hat' l0 g0 d0 d1
        have l0 := W7.out.l0
        have g0 := W7.out.g0
        have O8 : Hid (Own eY 39 (w7.setCell ⟨X + 1 + 1 + 1, 0, none⟩ (.slice (some ⟨g', 0, none⟩) (kk + 1) c')) (X + 4) (.slice (some ⟨g', 0, none⟩) (kk + 1) c') (outS (l.take (i + 1)) m)) := mkHid (O7.out.outs (fun q hq => (O7.out.lt hq).2) (outs_set w7 (X + 1 + 1 + 1) 0 _) (.inr (by omega)))
        have W8 := mkHid (W7.out.put (.slice (some ⟨g', 0, none⟩) (kk + 1) c'))
        have BE8 := mkHid (BE7.out.setCell (p := ⟨X + 1 + 1 + 1, 0, none⟩) (by show X ≤ X + 1 + 1 + 1; omega) (.slice (some ⟨g', 0, none⟩) (kk + 1) c'))
        go_wp2
        go_roundg (l.length - (i + 1))
        case measure => omega
        case rel => exact ⟨i + 1, some ⟨g', 0, none⟩, c', by omega, by go_num, Nat.le_refl _, by rw [HK1.out]; exact W8.out, by rw [HK1.out]; exact O8.out, BE8.out⟩
      · have HYM : Hid (x ∈ m) := mkHid (HR.out.1 hrb)
        subst hrb
        have HE := mkHid (outS_yes HXX.out HYM.out)
        go_wp2
        go_roundg (l.length - (i + 1))
        case measure => omega
        case rel => exact ⟨i + 1, a, c, by omega, by go_num, Nat.le_refl _, by rw [HE.out, HKK.out]; exact W6.out, by rw [HE.out]; exact O6.out, BE6.out⟩
    · have i1 : ¬ (i : Int) < (l.length : Int) := by omega
      have el : l.take i = l := List.take_of_length_le (by omega)
      have HO : Hid (Own eY 39 wr (X + 4) (.slice a kk c) (outS l m)) := mkHid (by have h := HOW.out; rw [HKK.out, el] at h; exact h)
      have HK : Hid ((outS l m).length = kk) := mkHid (by have h := HKK.out; rw [el] at h; exact h)
      clear el HOW HKK
      have r0 := HWO.out.r0
      have r1 := HWO.out.r1
      have f0 := HWO.out.f0
      have f1 := HWO.out.f1
      have l0 := HWO.out.l0
      have l1 := HWO.out.l1
      go_wp2
      have HOF : Hid (Own eY 39 ((wr.setCell ⟨X + 1 + 1, 0, none⟩ (.slice a kk c)).setCell ⟨X + 1 + 1, 1, none⟩ (.func (.func 101) #[] #[])) X (.slice a kk c) (outS l m)) := mkHid (by
        have h1 := HO.out.outs (fun q hq => (HO.out.lt hq).2) (outs_set wr (X + 1 + 1) 0 (.slice a kk c)) (.inr (by omega))
        exact (h1.outs (fun q hq => (h1.lt hq).2) (outs_set _ (X + 1 + 1) 1 (.func (.func 101) #[] #[])) (.inr (by omega))).mono (by omega))
      have HBF := mkHid ((HBE.out.setCell (p := ⟨X + 1 + 1, 0, none⟩) (by show X ≤ X + 1 + 1; omega) (.slice a kk c)).setCell (p := ⟨X + 1 + 1, 1, none⟩) (by show X ≤ X + 1 + 1; omega) (.func (.func 101) #[] #[]))
      refine bodyPost_ret (v := .agg #[.slice a kk c, .func (.func 101) #[] #[]]) (by simp [results, Tryz.results45, go_sem, *]) rfl ⟨?_, a, c, ?_, ?_⟩
      · rw [HX.out]; exact HBF.out
      · rw [HK.out]
      · rw [HX.out, HK.out]; exact HOF.out
end Go.Proofs.YtbfmljogfljhdaaGreat
namespace Go.Proofs.YtbfmljogfljhdaaGreat
open Go.RowKit

set_option maxHeartbeats 800000 in
theorem isEmpty_any (l : List Y) (ao : Option Addr) (cap : Nat) (w : World) :
    Calls Tryz.prog 98 #[.agg #[.slice ao l.length cap, .func (.func 101) #[] #[]]] w fun e w' => Tells w w' e (l = []) := by
  go_enter Tryz.func98, Tryz.ntmps98
  go_wp2
  go_ret
  refine ⟨bl_alloc (Below.refl _ _) _, _, rfl, ?_⟩
  simp
theorem fresh_y {w' : World} {g base : Nat} (hb : base ≤ g) (hg : w'.heap[g]? = some (.cells #[] 39 (0, 0))) : Own eY 39 w' base (.slice (some ⟨g, 0, none⟩) 0 0) [] :=
  ⟨rfl, .inr ⟨g, 0, #[], rfl, hb, hg, Nat.le_refl _, by unfold maxLen; omega, rfl, rfl⟩⟩
set_option maxRecDepth 100000 in
set_option maxHeartbeats 1600000 in
theorem clone_any (l : List Y) (ao : Option Addr) (cap : Nat) (w : World) (hn : l.length ≤ 1048576) (hl : At eY w ao l) :
    Calls Tryz.prog 103 #[.slice ao l.length cap] w fun e w' => Below w.heap.size w w' ∧ ∃ (g : Option Addr) (c : Nat), e = .returned (.slice g l.length c) ∧ Own eY 39 w' w.heap.size (.slice g l.length c) l := by
  obtain ⟨ti, hti, hz⟩ := Option.map_eq_some_iff.1 infoY
  simp only [Prod.mk.injEq] at hz
  obtain ⟨hz0, hz1, hz2⟩ := hz
  have HI := mkHid (show Tryz.prog.info? 39 = some ti ∧ ti.zero = some (.agg #[.int .i64 0, .int .i64 0]) ∧ ti.size = 2 ∧ ti.bytes = 16 from ⟨hti, hz0, hz1, hz2⟩)
  clear hti hz0 hz1 hz2
  have q34 : ∀ (w : World) (a : Option Addr) (n c n' c' : Nat), (binOp .eql 34 (.slice a n c) (.slice none n' c')).run Tryz.prog w = .ok (.bool a.isNone) w := fun w a n c n' c' => Lib.run_eql_slice_nil w 34 39 a n c n' c' Tryz.underlying34
  cases ao with
  | none =>
    obtain rfl : l = [] := by rcases hl with h | ⟨b, o, e, _⟩; exact h; cases e
    go_enter Tryz.func103, Tryz.ntmps103
    go_wp2
    go_ret
    exact ⟨Below.refl _ _, none, 0, rfl, Own.nil _ _ _ _⟩
  | some ad =>
    have HF : Hid (Own eY 39 (w.alloc (.cells #[] 39)) w.heap.size (.slice (some ⟨w.heap.size, 0, none⟩) 0 0) []) := mkHid (fresh_y (Nat.le_refl _) (by have := heap_alloc_new w (.cells #[] 39); simpa using this))
    have HL := mkHid hl
    clear hl
    rcases Nat.eq_zero_or_pos l.length with h0 | h0
    · obtain rfl : l = [] := List.length_eq_zero_iff.1 h0
      go_enter Tryz.func103, Tryz.ntmps103
      go_wp2_with (at_builtin; refine wpList_append_zero _ rfl _ _ 34 rfl 39 ti Tryz.underlying34 HI.out.1 _ _ _ (Nat.le_refl 0) rfl _ _ rfl ?_)
      go_wp2
      go_ret
      exact ⟨bl_alloc (Below.refl _ _) _, _, 0, rfl, HF.out⟩
    · obtain ⟨b, off, e, hlb, hq⟩ := HL.out.cons h0
      cases e
      go_enter Tryz.func103, Tryz.ntmps103
      go_wp2_with (at_builtin; refine wpList_append_lies _ rfl _ _ 34 rfl w.heap.size 39 ti (.agg #[.int .i64 0, .int .i64 0]) 2 16 Tryz.underlying34 HI.out.1 HI.out.2.1 HI.out.2.2.1 HI.out.2.2.2 rfl (by decide) _ 0 [] rfl HF.out ⟨b, off, none⟩ l.length cap (eY.flat l) rfl (eY.flat_len l) ?c1 ?c2 h0 ?c3 ?c4 ?c5 (w.heap.size + 1) (by simp) ?_)
      case c1 =>
        intro j u hu
        have hj : j < l.length * 2 := by have := (List.getElem?_eq_some_iff.1 hu).1; rw [El.flat_len] at this; exact this
        obtain ⟨x, hx⟩ : ∃ x, l[j / 2]? = some x := ⟨_, List.getElem?_eq_getElem (by omega)⟩
        have e : j / 2 * eY.k + j % 2 = j := by show j / 2 * 2 + j % 2 = j; omega
        have h1 := eY.flat_get hx (j := j % 2) (by show j % 2 < 2; omega)
        rw [e, hu] at h1
        have h2 := hq (j / 2) x hx (j % 2) u h1.symm
        rw [Nat.add_assoc, e] at h2
        rw [Addr.add_lit]
        exact ((bl_alloc (Below.refl w.heap.size w) _).cell (p := ⟨b, off + j, none⟩) hlb).trans h2
      case c2 =>
        intro u hu
        simp [El.flat, eY] at hu
        obtain ⟨p, q, _, h⟩ := hu
        rcases h with rfl | rfl <;> rfl
      case c3 => unfold maxLen; omega
      case c4 => omega
      case c5 => first | omega | (simp; done) | (simp; omega)
      intro g' c' w7 hown' hgrow hat' _
      have HB : Hid (Below w.heap.size w w7) := mkHid (((Below.refl w.heap.size w).alloc (Nat.le_refl _) _).grown hgrow (by simp) (fun q hq => by have := (HF.out.lt hq).1; omega))
      have HO : Hid (Own eY 39 w7 w.heap.size (.slice (some ⟨g', 0, none⟩) l.length c') l) := mkHid hown'
      clear hown' hgrow hat' hq
      go_wp2
      go_ret
      exact ⟨HB.out, _, c', rfl, HO.out⟩
end Go.Proofs.YtbfmljogfljhdaaGreat
namespace Go.Proofs.YtbfmljogfljhdaaGreat
open Go.RowKit

def keepD (lv : Int) (T : List Y) (p : Y) : Bool := decide (p = (0, 0)) || (decide (p = (lv, 0)) || decide (p ∉ T))
def outD (lv : Int) (T l : List Y) : List Y := l.filter (keepD lv T)
theorem outD_no {lv : Int} {T l : List Y} {i : Nat} {x : Y} (hx : l[i]? = some x) (h : keepD lv T x = false) : outD lv T (l.take (i + 1)) = outD lv T (l.take i) := by
  obtain ⟨hi, rfl⟩ := List.getElem?_eq_some_iff.1 hx
  unfold outD
  rw [List.take_succ_eq_append_getElem hi, List.filter_append]
  simp [h]
theorem outD_yes {lv : Int} {T l : List Y} {i : Nat} {x : Y} (hx : l[i]? = some x) (h : keepD lv T x = true) : outD lv T (l.take (i + 1)) = outD lv T (l.take i) ++ [x] := by
  obtain ⟨hi, rfl⟩ := List.getElem?_eq_some_iff.1 hx
  unfold outD
  rw [List.take_succ_eq_append_getElem hi, List.filter_append]
  simp [h]
theorem outD_len (lv : Int) (T l : List Y) : (outD lv T l).length ≤ l.length := List.length_filter_le _ _
theorem eqB_yes {x : Y} {c d : Int} (h : eqB x.1 x.2 c d = true) : x = (c, d) := by
  unfold eqB at h
  obtain ⟨a, b⟩ := x
  simp at h
  simp [h]
theorem eqB_no {x : Y} {c d : Int} (h : eqB x.1 x.2 c d = false) : x ≠ (c, d) := by
  unfold eqB at h
  obtain ⟨a, b⟩ := x
  simp at h
  intro e
  simp at e
  exact absurd e.2 (h e.1)
set_option maxRecDepth 100000 in
set_option maxHeartbeats 3200000 in
theorem sWithout_any (l T : List Y) (lv : Int) (ao aT : Option Addr) (cap cT : Nat) (w : World) (hn : l.length ≤ 1048576) (hT : T.length ≤ 1048576) (hl : At eY w ao l) (hlT : At eY w aT T) :
    Calls Tryz.prog 104 #[.slice ao l.length cap, .int .i64 lv, .slice aT T.length cT] w fun e w' => Below w.heap.size w w' ∧ ∃ (g : Option Addr) (c : Nat), e = .returned (.slice g (outD lv T l).length c) ∧ Own eY 39 w' w.heap.size (.slice g (outD lv T l).length c) (outD lv T l) := by
  obtain ⟨ti, hti, hz⟩ := Option.map_eq_some_iff.1 infoY
  simp only [Prod.mk.injEq] at hz
  obtain ⟨hz0, hz1, hz2⟩ := hz
  have HI := mkHid (show Tryz.prog.info? 39 = some ti ∧ ti.zero = some (.agg #[.int .i64 0, .int .i64 0]) ∧ ti.size = 2 ∧ ti.bytes = 16 from ⟨hti, hz0, hz1, hz2⟩)
  clear hti hz0 hz1 hz2
  have HF : Hid (Own eY 39 (w.alloc (.cells #[] 39)) w.heap.size (.slice (some ⟨w.heap.size, 0, none⟩) 0 0) []) := mkHid (fresh_y (Nat.le_refl _) (by have := heap_alloc_new w (.cells #[] 39); simpa using this))
  have HL := mkHid hl
  have HLT := mkHid hlT
  have HT := mkHid hT
  clear hl hlT hT
  go_enter Tryz.func104, Tryz.ntmps104
  go_wp2
  go_loopg [7, 8, 9] l.length (fun g s7 s8 s9 wr => ∃ (i : Nat) (a : Option Addr) (c : Nat), i ≤ l.length ∧ s8 = .int .i64 i ∧ l.length - i ≤ g ∧ s7 = .slice a (outD lv T (l.take i)).length c ∧ Own eY 39 wr w.heap.size (.slice a (outD lv T (l.take i)).length c) (outD lv T (l.take i)) ∧ Below w.heap.size w wr)
  case atStart => exact ⟨0, _, 0, Nat.zero_le _, rfl, by omega, rfl, HF.out, bl_alloc (Below.refl _ _) _⟩
  case round =>
    clear HF
    obtain ⟨i, a, c, hi, rfl, hg, rfl, hown, hbel⟩ := hrel
    have HOW := mkHid hown
    have HBE := mkHid hbel
    have hszr := hbel.size
    obtain ⟨kk, hkk⟩ : ∃ kk, (outD lv T (l.take i)).length = kk := ⟨_, rfl⟩
    have hkl : kk ≤ l.length := by rw [← hkk]; exact Nat.le_trans (outD_len _ _ _) (by simp; omega)
    have HKK := mkHid hkk
    rw [hkk]
    clear hown hkk
    by_cases hlt : i < l.length
    · obtain ⟨x, hx⟩ : ∃ x, l[i]? = some x := ⟨_, List.getElem?_eq_getElem hlt⟩
      obtain ⟨b, off, rfl, _, hq⟩ := (HL.out.below hbel).cons (by omega)
      obtain ⟨c0, c1⟩ := get_y hq hx
      have HXX := mkHid hx
      have i0 : (0 : Int) ≤ (i : Int) := by omega
      have i1 : (i : Int) < (l.length : Int) := by omega
      clear hq hx hbel
      have hEq := eql_sym
      cases h1 : eqB x.1 x.2 0 0
      · cases h2 : eqB x.1 x.2 lv 0
        · go_wp2_with fail
          clear c0 c1 hEq
          refine (l10Find_any T aT cT x _ (by have := HT.out; unfold maxLen; omega) (HLT.out.below HBE.out)).mono ?_
          rintro e w1 ⟨hb, r, rfl, hr⟩
          have HR := mkHid hr
          have BE1 := mkHid (below_step HBE.out hb)
          have OW1 := mkHid (HOW.out.below hb)
          have hsz1 := BE1.out.size
          obtain ⟨_, _, e, _, hq⟩ := (HL.out.below BE1.out).cons (by omega)
          cases e
          obtain ⟨c0, c1⟩ := get_y hq HXX.out
          clear hb hr hq
          by_cases hr0 : r < 0
          · have HKP : Hid (keepD lv T x = true) := mkHid (by unfold keepD; have : x ∉ T := fun h => by { have := HR.out.2 h; omega }; simp [this])
            have hrd : decide (r < 0) = true := decide_eq_true hr0
            have HO4 : Hid (w1.ownsRow w.heap.size 39 2 (.slice a kk c) kk (eY.flat (outD lv T (l.take i)))) := mkHid (by have h := OW1.out; unfold Own at h; rw [HKK.out] at h; exact h)
            go_wp2_with (at_builtin; refine wpList_append_lies _ rfl _ _ 34 rfl w.heap.size 39 ti (.agg #[.int .i64 0, .int .i64 0]) 2 16 Tryz.underlying34 HI.out.1 HI.out.2.1 HI.out.2.2.1 HI.out.2.2.2 rfl (by decide) _ _ _ rfl (World.ownsRow.alloc HO4.out _) ⟨w1.heap.size, 0, none⟩ 1 1 [.int .i64 x.1, .int .i64 x.2] rfl rfl ?c1 ?c2 (by decide) ?c3 ?c4 ?c5 (w1.heap.size + 1) (by simp) ?_)
            case c1 => exact two_new _ _ _ _
            case c2 => first | rfl | (intro u hu; simp at hu; rcases hu with rfl | rfl <;> rfl) | exact ⟨rfl, rfl⟩
            case c3 => unfold maxLen; omega
            case c4 => omega
            case c5 => first | omega | (simp; omega)
            intro g' c' w7 hown' hgrow hat' _
            have HE := mkHid (outD_yes HXX.out HKP.out)
            have HK1 : Hid ((outD lv T (l.take (i + 1))).length = kk + 1) := mkHid (by rw [HE.out, List.length_append, HKK.out]; rfl)
            have O7 : Hid (Own eY 39 w7 w.heap.size (.slice (some ⟨g', 0, none⟩) (kk + 1) c') (outD lv T (l.take (i + 1)))) := mkHid (by
              unfold Own
              rw [HK1.out, HE.out, El.flat_app]
              exact hown')
            have BE7 : Hid (Below w.heap.size w w7) := mkHid ((BE1.out.alloc BE1.out.size _).grown hgrow (by simp; omega) (fun q hq => by have := (World.ownsRow.lt HO4.out q hq).1; omega))
            clear hown' hgrow hat' c0 c1
            go_wp2
            go_roundg (l.length - (i + 1))
            case measure => omega
            case rel => exact ⟨i + 1, some ⟨g', 0, none⟩, c', by omega, by go_num, Nat.le_refl _, by rw [HK1.out], by rw [HK1.out]; exact O7.out, BE7.out⟩
          · have HKP : Hid (keepD lv T x = false) := mkHid (by unfold keepD; have h3 : x ∈ T := HR.out.1 (by omega); have a1 := eqB_no h1; have a2 := eqB_no h2; simp [h3, a1, a2])
            have hrd : decide (r < 0) = false := decide_eq_false hr0
            have HE := mkHid (outD_no HXX.out HKP.out)
            go_wp2
            go_roundg (l.length - (i + 1))
            case measure => omega
            case rel => exact ⟨i + 1, a, c, by omega, by go_num, Nat.le_refl _, by rw [HE.out, HKK.out], by rw [HE.out]; exact OW1.out, BE1.out⟩
        · have HKP : Hid (keepD lv T x = true) := mkHid (by unfold keepD; simp [eqB_yes h2])
          have HO4 : Hid (wr.ownsRow w.heap.size 39 2 (.slice a kk c) kk (eY.flat (outD lv T (l.take i)))) := mkHid (by have h := HOW.out; unfold Own at h; rw [HKK.out] at h; exact h)
          go_wp2_with (at_builtin; refine wpList_append_lies _ rfl _ _ 34 rfl w.heap.size 39 ti (.agg #[.int .i64 0, .int .i64 0]) 2 16 Tryz.underlying34 HI.out.1 HI.out.2.1 HI.out.2.2.1 HI.out.2.2.2 rfl (by decide) _ _ _ rfl (World.ownsRow.alloc HO4.out _) ⟨wr.heap.size, 0, none⟩ 1 1 [.int .i64 x.1, .int .i64 x.2] rfl rfl ?c1 ?c2 (by decide) ?c3 ?c4 ?c5 (wr.heap.size + 1) (by simp) ?_)
          case c1 => exact two_new _ _ _ _
          case c2 => first | rfl | (intro u hu; simp at hu; rcases hu with rfl | rfl <;> rfl) | exact ⟨rfl, rfl⟩
          case c3 => unfold maxLen; omega
          case c4 => omega
          case c5 => first | omega | (simp; omega)
          intro g' c' w7 hown' hgrow hat' _
          have HE := mkHid (outD_yes HXX.out HKP.out)
          have HK1 : Hid ((outD lv T (l.take (i + 1))).length = kk + 1) := mkHid (by rw [HE.out, List.length_append, HKK.out]; rfl)
          have O7 : Hid (Own eY 39 w7 w.heap.size (.slice (some ⟨g', 0, none⟩) (kk + 1) c') (outD lv T (l.take (i + 1)))) := mkHid (by
            unfold Own
            rw [HK1.out, HE.out, El.flat_app]
            exact hown')
          have BE7 : Hid (Below w.heap.size w w7) := mkHid ((HBE.out.alloc HBE.out.size _).grown hgrow (by simp; omega) (fun q hq => by have := (World.ownsRow.lt HO4.out q hq).1; omega))
          clear hown' hgrow hat' c0 c1
          go_wp2
          go_roundg (l.length - (i + 1))
          case measure => omega
          case rel => exact ⟨i + 1, some ⟨g', 0, none⟩, c', by omega, by go_num, Nat.le_refl _, by rw [HK1.out], by rw [HK1.out]; exact O7.out, BE7.out⟩
      · have HKP : Hid (keepD lv T x = true) := mkHid (by unfold keepD; simp [eqB_yes h1])
        have HO4 : Hid (wr.ownsRow w.heap.size 39 2 (.slice a kk c) kk (eY.flat (outD lv T (l.take i)))) := mkHid (by have h := HOW.out; unfold Own at h; rw [HKK.out] at h; exact h)
        go_wp2_with (at_builtin; refine wpList_append_lies _ rfl _ _ 34 rfl w.heap.size 39 ti (.agg #[.int .i64 0, .int .i64 0]) 2 16 Tryz.underlying34 HI.out.1 HI.out.2.1 HI.out.2.2.1 HI.out.2.2.2 rfl (by decide) _ _ _ rfl (World.ownsRow.alloc HO4.out _) ⟨wr.heap.size, 0, none⟩ 1 1 [.int .i64 x.1, .int .i64 x.2] rfl rfl ?c1 ?c2 (by decide) ?c3 ?c4 ?c5 (wr.heap.size + 1) (by simp) ?_)
        case c1 => exact two_new _ _ _ _
        case c2 => first | rfl | (intro u hu; simp at hu; rcases hu with rfl | rfl <;> rfl) | exact ⟨rfl, rfl⟩
        case c3 => unfold maxLen; omega
        case c4 => omega
        case c5 => first | omega | (simp; omega)
        intro g' c' w7 hown' hgrow hat' _
        have HE := mkHid (outD_yes HXX.out HKP.out)
        have HK1 : Hid ((outD lv T (l.take (i + 1))).length = kk + 1) := mkHid (by rw [HE.out, List.length_append, HKK.out]; rfl)
        have O7 : Hid (Own eY 39 w7 w.heap.size (.slice (some ⟨g', 0, none⟩) (kk + 1) c') (outD lv T (l.take (i + 1)))) := mkHid (by
          unfold Own
          rw [HK1.out, HE.out, El.flat_app]
          exact hown')
        have BE7 : Hid (Below w.heap.size w w7) := mkHid ((HBE.out.alloc HBE.out.size _).grown hgrow (by simp; omega) (fun q hq => by have := (World.ownsRow.lt HO4.out q hq).1; omega))
        clear hown' hgrow hat' c0 c1
        go_wp2
        go_roundg (l.length - (i + 1))
        case measure => omega
        case rel => exact ⟨i + 1, some ⟨g', 0, none⟩, c', by omega, by go_num, Nat.le_refl _, by rw [HK1.out], by rw [HK1.out]; exact O7.out, BE7.out⟩
    · have i1 : ¬ (i : Int) < (l.length : Int) := by omega
      have el : l.take i = l := List.take_of_length_le (by omega)
      have HO : Hid (Own eY 39 wr w.heap.size (.slice a kk c) (outD lv T l)) := mkHid (by have h := HOW.out; rw [HKK.out, el] at h; exact h)
      have HK : Hid ((outD lv T l).length = kk) := mkHid (by have h := HKK.out; rw [el] at h; exact h)
      clear el HOW HKK hbel
      go_wp2
      go_ret
      exact ⟨HBE.out, a, c, by rw [HK.out]; rfl, by rw [HK.out]; exact HO.out⟩
end Go.Proofs.YtbfmljogfljhdaaGreat
