/-
  CONTRACT of the program's rowOf: a Seg as links.
-/
import Derived.Test.YtbfmljogfljhdaaGreatCho
import Derived.Test.YtbfmljogfljhdaaGreatIb
namespace Go.Proofs.YtbfmljogfljhdaaGreat
open Go.RowKit

def linksOf : List (List Y) → List VV → List Bool → List Lk
  | [], _, _ => []
  | [b], _, _ => [⟨b, (0, 0, false), false⟩]
  | b :: B, V, M => ⟨b, V.headD (0, 0, false), M.headD false⟩ :: linksOf B V.tail M.tail
theorem links_step {B : List (List Y)} {V : List VV} {M : List Bool} {i : Nat} {b : List Y} {v : VV} {m : Bool} (hb : B[i]? = some b) (hv : V[i]? = some v) (hm : M[i]? = some m) (hl : i + 1 < B.length) :
    linksOf (B.drop i) (V.drop i) (M.drop i) = ⟨b, v, m⟩ :: linksOf (B.drop (i + 1)) (V.drop (i + 1)) (M.drop (i + 1)) := by
  obtain ⟨h1, rfl⟩ := List.getElem?_eq_some_iff.1 hb
  obtain ⟨h2, rfl⟩ := List.getElem?_eq_some_iff.1 hv
  obtain ⟨h3, rfl⟩ := List.getElem?_eq_some_iff.1 hm
  rw [List.drop_eq_getElem_cons h1, List.drop_eq_getElem_cons h2, List.drop_eq_getElem_cons h3]
  cases hd : B.drop (i + 1) with
  | nil => have := congrArg List.length hd; simp at this; omega
  | cons c r => rfl
theorem links_last {B : List (List Y)} {V : List VV} {M : List Bool} {i : Nat} {b : List Y} (hb : B[i]? = some b) (hl : i + 1 = B.length) : linksOf (B.drop i) (V.drop i) (M.drop i) = [⟨b, (0, 0, false), false⟩] := by
  obtain ⟨h1, rfl⟩ := List.getElem?_eq_some_iff.1 hb
  rw [List.drop_eq_getElem_cons h1, List.drop_eq_nil_of_le (by omega)]
  rfl
end Go.Proofs.YtbfmljogfljhdaaGreat
