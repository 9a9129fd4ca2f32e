/-
  PURE: what the specification asks of a Seg, row by row.
-/
import Derived.Test.YtbfmljogfljhdaaGreatFe
import Derived.Test.YtbfmljogfljhdaaGreatTp
import Derived.Test.YtbfmljogfljhdaaGreatSk
namespace Go.Proofs.YtbfmljogfljhdaaGreat
open Go.RowKit

structure RowS (n : Int) (B : List (List Y)) (i : Nat) (b : List Y) : Prop where
  ne : b ≠ []
  sym : ∀ p, p ∈ b → symP n p
  asc : b.Pairwise LtY
  inn : ∀ p, p ∈ b → inY B p = some i
theorem OkS.row {n l : Int} {B : List (List Y)} {V : List VV} {M : List Bool} (h : OkS n l B V M) {i : Nat} {b : List Y} (hb : B[i]? = some b) : RowS n B i b :=
  have hm := List.mem_of_getElem? hb
  ⟨(h.rows b hm).ne, (h.rows b hm).sym, (h.rows b hm).asc, fun _ hp => in_of_nodup h.nodup hb hp⟩
theorem last_get {B : List (List Y)} (h : 1 ≤ B.length) : ∃ b, B[B.length - 1]? = some b ∧ B.getLastD [] = b := by
  refine ⟨B[B.length - 1], List.getElem?_eq_getElem (by omega), ?_⟩
  have hne : B ≠ [] := by intro e; rw [e] at h; simp at h
  rw [List.getLastD_eq_getLast?, List.getLast?_eq_getElem?, List.getElem?_eq_getElem (by omega)]; rfl
theorem head_get {B : List (List Y)} (h : 1 ≤ B.length) : ∃ b, B[0]? = some b ∧ B.headD [] = b := by
  cases B with
  | nil => simp at h
  | cons b B => exact ⟨b, rfl, rfl⟩
theorem ok_ends {n l : Int} {B : List (List Y)} {V : List VV} {M : List Bool} (h : OkS n l B V M) : toI (inY B (0, 0)) = 0 ∧ toI (inY B (l, 0)) = (B.length : Int) - 1 := by
  obtain ⟨b, h1, h2⟩ := head_get h.k1
  obtain ⟨c, h3, h4⟩ := last_get h.k1
  have hf := h.first
  have hl := h.last
  rw [h2] at hf
  rw [h4] at hl
  have k1 := h.k1
  rw [in_of_nodup h.nodup h1 hf, in_of_nodup h.nodup h3 hl]
  exact ⟨rfl, by show ((B.length - 1 : Nat) : Int) = _; omega⟩
theorem ok_of {n l : Int} {B : List (List Y)} {V : List VV} {M : List Bool} (h1 : lenP n l) (h2 : 1 ≤ B.length) (h3 : B.length ≤ 16) (h4 : V.length + 1 = B.length) (h5 : M.length + 1 = B.length) (h6 : B.flatten.length ≤ 40)
    (hr : ∀ (i : Nat) (b : List Y), B[i]? = some b → RowS n B i b) (hv : ∀ v, v ∈ V → okB v.1 v.2.1 = true) (e0 : toI (inY B (0, 0)) = 0) (e1 : toI (inY B (l, 0)) = (B.length : Int) - 1) : OkS n l B V M := by
  have rows : ∀ b, b ∈ B → RowP n b := fun b hb => by
    obtain ⟨i, hi, rfl⟩ := List.getElem_of_mem hb
    have := hr i _ (List.getElem?_eq_getElem hi)
    exact ⟨this.ne, this.sym, this.asc⟩
  refine ⟨h1, h2, h3, h4, h5, h6, rows, nodup_of_in (fun b hb => (rows b hb).asc) fun i b hb p hp => (hr i b hb).inn p hp, hv, ?_, ?_⟩
  · obtain ⟨b, g1, g2⟩ := head_get h2
    obtain ⟨hi, hm, _⟩ := inY_some.1 (toI_eq.1 (show toI (inY B (0, 0)) = ((0 : Nat) : Int) from e0))
    rw [List.getElem?_eq_getElem hi] at g1
    rw [g2, ← Option.some.inj g1]
    exact hm
  · obtain ⟨b, g1, g2⟩ := last_get h2
    obtain ⟨hi, hm, _⟩ := inY_some.1 (toI_eq.1 (show toI (inY B (l, 0)) = ((B.length - 1 : Nat) : Int) by rw [e1]; omega))
    rw [List.getElem?_eq_getElem hi] at g1
    rw [g2, ← Option.some.inj g1]
    exact hm
/-- From one to the next it ascends: so it does. -/
theorem asc_steps : ∀ {b : List Y}, (∀ (q : Nat) (x y : Y), b[q]? = some x → b[q + 1]? = some y → LtY x y) → b.Pairwise LtY
  | [], _ => List.Pairwise.nil
  | [a], _ => by simp
  | a :: b :: l, h => by
    have ih : (b :: l).Pairwise LtY := asc_steps fun q x y hx hy => h (q + 1) x y (by simpa using hx) (by simpa using hy)
    refine List.pairwise_cons.2 ⟨fun p hp => ?_, ih⟩
    have hab := h 0 a b rfl rfl
    rcases List.mem_cons.1 hp with rfl | hp
    · exact hab
    · exact hab.trans ((List.pairwise_cons.1 ih).1 p hp)
theorem asc_at {b : List Y} (h : b.Pairwise LtY) {q : Nat} {x y : Y} (hx : b[q]? = some x) (hy : b[q + 1]? = some y) : LtY x y := by
  obtain ⟨hi, rfl⟩ := List.getElem?_eq_some_iff.1 hx
  obtain ⟨hj, rfl⟩ := List.getElem?_eq_some_iff.1 hy
  rw [List.pairwise_iff_getElem] at h
  exact h q (q + 1) hi hj (by omega)
theorem lessB_iff (x y : Y) : lessB x.1 x.2 y.1 y.2 = true ↔ LtY x y := by unfold lessB LtY; simp
theorem symB_iff (n : Int) (x : Y) : symOkB n x.1 x.2 = true ↔ symP n x := by unfold symOkB btw symP; simp [and_assoc]
/-- What is known of a row behind its first j terms. -/
structure Part (n : Int) (B : List (List Y)) (i : Nat) (b : List Y) (j : Nat) : Prop where
  each : ∀ (q : Nat) (x : Y), q < j → b[q]? = some x → symP n x ∧ inY B x = some i
  step : ∀ (q : Nat) (x y : Y), q + 1 < j → b[q]? = some x → b[q + 1]? = some y → LtY x y
theorem Part.zero (n : Int) (B : List (List Y)) (i : Nat) (b : List Y) : Part n B i b 0 := ⟨fun q x h => by omega, fun q x y h => by omega⟩
theorem Part.next {n : Int} {B : List (List Y)} {i : Nat} {b : List Y} {j : Nat} (h : Part n B i b j) {x : Y} (hx : b[j]? = some x) (h1 : symP n x) (h2 : inY B x = some i) (h3 : ∀ q y, j = q + 1 → b[q]? = some y → LtY y x) : Part n B i b (j + 1) :=
  ⟨fun q y hq hy => by
    rcases (by omega : q < j ∨ q = j) with h' | rfl
    · exact h.each q y h' hy
    · rw [hx] at hy; cases hy; exact ⟨h1, h2⟩, fun q y z hq hy hz => by
    rcases (by omega : q + 1 < j ∨ j = q + 1) with h' | h'
    · exact h.step q y z h' hy hz
    · subst h'; rw [hx] at hz; cases hz; exact h3 q y rfl hy⟩
theorem Part.next2 {n : Int} {B : List (List Y)} {i : Nat} {b : List Y} {j jm : Nat} (h : Part n B i b j) {x y : Y} (hx : b[j]? = some x) (h1 : symP n x) (h2 : inY B x = some i) (hj : j = jm + 1) (hy : b[jm]? = some y) (hl : LtY y x) : Part n B i b (j + 1) :=
  h.next hx h1 h2 fun q y' hq hy' => by
    obtain rfl : q = jm := by omega
    rw [hy] at hy'
    cases hy'
    exact hl
theorem Part.all {n : Int} {B : List (List Y)} {i : Nat} {b : List Y} (h : Part n B i b b.length) (hne : b ≠ []) : RowS n B i b :=
  ⟨hne, fun p hp => by obtain ⟨q, hq, rfl⟩ := List.getElem_of_mem hp; exact (h.each q _ hq (List.getElem?_eq_getElem hq)).1, asc_steps fun q x y hx hy => h.step q x y (List.getElem?_eq_some_iff.1 hy).1 hx hy, fun p hp => by obtain ⟨q, hq, rfl⟩ := List.getElem_of_mem hp; exact (h.each q _ hq (List.getElem?_eq_getElem hq)).2⟩
/-- A call tells whether something is so. -/
def Tells (w w' : World) (e : Ending) (p : Prop) : Prop := Below w.heap.size w w' ∧ ∃ r : Bool, e = .returned (.bool r) ∧ (r = true ↔ p)
theorem Tells.no {w w' : World} {p : Prop} (hb : Below w.heap.size w w') (h : ¬ p) : Tells w w' (.returned (.bool false)) p := ⟨hb, false, rfl, fun e => (by cases e), fun e => absurd e h⟩
theorem Tells.yes {w w' : World} {p : Prop} (hb : Below w.heap.size w w') (h : p) : Tells w w' (.returned (.bool true)) p := ⟨hb, true, rfl, fun _ => h, fun _ => rfl⟩
end Go.Proofs.YtbfmljogfljhdaaGreat
