/-
  CONTRACT of the program's SegDrop.
-/
import Derived.Test.YtihpajiololfoaaGreatCc16
import Derived.Test.YtihpajiololfoaaGreatCc11
namespace Go.Proofs.YtihpajiololfoaaGreat
open Go.RowKit

/-- What SegDrop answers. -/
def DropR (n l : Int) (T : List Y) (S Z : SG) : Prop := (OkS n l S.B S.V S.M ∧ T.length ≤ 40 → Z = dropSG l T S) ∧ (¬ (OkS n l S.B S.V S.M ∧ T.length ≤ 40) → Z = noS)
theorem DropR.one {n l : Int} {T : List Y} {S Z Z' : SG} (h : DropR n l T S Z) (h' : DropR n l T S Z') : Z = Z' := by
 by_cases e : OkS n l S.B S.V S.M ∧ T.length ≤ 40
 ·rw [h.1 e, h'.1 e]
 ·rw [h.2 e, h'.2 e]
def put3 (w : World) (X : Nat) (p q r : Value) : World := ((w.setCell ⟨X, 0, none⟩ p).setCell ⟨X, 1, none⟩ q).setCell ⟨X, 2, none⟩ r
theorem gives_shut {w wr : World} {Yb lo hi : Nat} {A : SAd} {S : SG} (hO : OwnS wr lo hi A S) (hlo : Yb + 1 ≤ lo) (hhi : hi ≤ wr.heap.size) (hb : Below w.heap.size w wr) (hY : w.heap.size ≤ Yb) :
  GivesS w (put3 wr Yb (.slice A.a0 S.B.length A.c0) (.slice A.a1 S.V.length A.c1) (.slice A.a2 S.M.length A.c2)) (.returned (.agg #[.slice A.a0 S.B.length A.c0, .slice A.a1 S.V.length A.c1, .slice A.a2 S.M.length A.c2])) S := by
 have hO1 := hO.outs (outs_set wr Yb 0 (.slice A.a0 S.B.length A.c0)) (.inr hlo)
 have hO2 := hO1.outs (outs_set _ Yb 1 (.slice A.a1 S.V.length A.c1)) (.inr hlo)
 have hO3 := hO2.outs (outs_set _ Yb 2 (.slice A.a2 S.M.length A.c2)) (.inr hlo)
 refine ⟨A, rfl, hO3.mono (by omega) (by simpa [put3, go_sem] using hhi), ?_⟩
 exact ((hb.setCell (p := ⟨Yb, 0, none⟩) hY _).setCell (p := ⟨Yb, 1, none⟩) hY _).setCell (p := ⟨Yb, 2, none⟩) hY _
theorem links_b : ∀ (B : List (List Y)) (V : List VV) (M : List Bool), (linksOf B V M).map Lk.b = B
 | [], _, _ => rfl
 | [_], _, _ => rfl
 | b :: b2 :: B, V, M => by
  show b :: (linksOf (b2 :: B) V.tail M.tail).map Lk.b = _
  rw [links_b]
end Go.Proofs.YtihpajiololfoaaGreat
