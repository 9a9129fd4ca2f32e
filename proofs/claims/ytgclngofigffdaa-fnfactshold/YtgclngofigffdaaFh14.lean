/-
  What FactsMeet answers, as tables; a grid inside a table in memory.
-/
import Derived.Test.YtgclngofigffdaaFh13
import Derived.Test.YtgclngofigffdaaFh09
namespace Go.Proofs.Ytgclngofigffdaa
open Go.RowKit

/-- What FactsMeet answers. -/
def metF (z : Int) (l : List Int) (z' : Int) (l' : List Int) : Option Tab := if okF z l && (okF z' l' && decide (z = z')) then cloO z.toNat (fun a b => min (tab z.toNat l a b) (tab z.toNat l' a b)) else none
theorem met_bd {n : Nat} {f g : Tab} (hf : Fine n f) (hg : Fine n g) : Bd n (fun a b => min (f a b) (g a b)) 10000000 := fun a b ha hb => by
  have q1 := hf a b ha hb
  have q2 := hg a b ha hb
  have q3 := cap_le a b
  show -10000000 ≤ min (f a b) (g a b) ∧ min (f a b) (g a b) ≤ 10000000
  omega
theorem met_cap {n : Nat} {f : Tab} (g : Tab) (hf : Fine n f) : (∀ a b, a < n → b < n → min (f a b) (g a b) ≤ capT a b) ∧ ∀ a, a < n → min (f a a) (g a a) ≤ 0 := by
  refine ⟨fun a b ha hb => ?_, fun a ha => ?_⟩
  · have := hf a b ha hb; omega
  · have := (hf a a ha ha).2.2 rfl; omega
theorem grid_op {n : Nat} (hn : n ≤ 13) (f g : Tab) (m : Int → Int → Int) (h0 : m 0 0 = 0) : opL m (grid n f) (grid n g) = grid n (fun a b => m (f a b) (g a b)) := by
  refine grid_of hn (opL_len _ _ _) (fun a b ha hb => ?_) (fun p hp => ?_)
  · have h1 := grid_V hn f a b ha hb
    have h2 := grid_V hn g a b ha hb
    have hlt : a * 13 + b < 169 := by omega
    rw [List.getD_eq_getElem?_getD]
    simp only [opL, List.getElem?_map]
    rw [List.getElem?_range hlt]
    show m _ _ = _
    rw [h1, h2]
  · have h1 := grid_out (f := f) p hp
    have h2 := grid_out (f := g) p hp
    by_cases hlt : p < 169
    · rw [List.getD_eq_getElem?_getD]
      simp only [opL, List.getElem?_map]
      rw [List.getElem?_range hlt]
      show m _ _ = _
      rw [h1, h2, h0]
    · rw [List.getD_eq_getElem?_getD, List.getElem?_eq_none (by rw [opL_len]; omega)]; rfl
/-- The grid inside a table. -/
theorem Dif.arr {w : World} {b : Nat} {n : Int} {G : List Int} (h : Dif w b n G) : w.rangeAt b 1 (ints G) := fun j v hv => by
  have := h.range (j + 1) v (by simpa [dL] using hv)
  rw [show 0 + (j + 1) = 1 + j by omega] at this
  exact this
theorem Dif.part {w : World} {b : Nat} {n : Int} {G H : List Int} (h : Dif w b n G) (hH : H.length = 169) : Dif (w.setCells b 1 (ints H)) b n H := by
  refine ⟨hH, fun j v hv => ?_, World.there_setCells h.there _ _ _⟩
  cases j with
  | zero =>
    rw [World.cell?_setCells_out b _ _ w ⟨b, 0 + 0, none⟩ (fun _ _ => .inl (by show 0 + 0 < 1; omega))]
    exact h.range 0 v (by simpa [dL] using hv)
  | succ p =>
    have h2 := World.cell?_setCells_in b (ints H) 1 w (fun j hj => by
      rw [ints_len, hH] at hj
      have := (h.there (1 + j) (by omega)).1
      simpa using this) p (by
        have := (List.getElem?_eq_some_iff.1 hv).1
        simp [dL, ints_len] at this
        rw [ints_len]; exact this)
    rw [show 0 + (p + 1) = 1 + p by omega, h2]
    have : (dL n H)[p + 1]? = (ints H)[p]? := by simp [dL]
    rw [this, List.getElem?_eq_getElem] at hv
    exact hv
theorem dA_part (n : Int) (G : List Int) (h : G.length = 169) : (dA n G).extract 1 170 = gA G := by
  unfold dA dL gA
  apply Array.ext'
  simp
  exact List.take_of_length_le (by rw [ints_len, h]; omega)
end Go.Proofs.Ytgclngofigffdaa
