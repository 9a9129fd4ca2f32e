/-
  PURE: the program's dropping over a row of links against the specification's tidying.
  PURE: what SegDrop gives, by the program's links and by the specification's tidying.
-/
import Derived.Test.YtodjmpocpfkpaaaGreatKx24
import Derived.Test.YtodjmpocpfkpaaaGreatKx22
import Derived.Test.YtodjmpocpfkpaaaGreatKx25
import Derived.Test.YtodjmpocpfkpaaaGreatKx08
namespace Go.Proofs.YtodjmpocpfkpaaaGreat
open Go.RowKit

def jv (x y : VV) : VV := joinV x.1 x.2.1 x.2.2 y.1 y.2.1 y.2.2
def noneV : VV := (1, 0, true)
theorem jv_none {x : VV} (h : okB x.1 x.2.1 = true) : jv noneV x = x := by
 obtain ⟨a, b, s⟩ := x
 have h' : okB a b = true := h
 have h1 : okB 1 0 = true := by decide
 have h2 : isB 1 0 = false := by decide
 simp [jv, noneV, joinV, joinM, h', h1, h2]
/-- The program: the links that are left of at and those behind it (their bounds are already without the terms). -/
def dropK : Lk → List Lk → List Lk
 | at', [] => [at']
 | at', n :: r => if n.b = [] then dropK ⟨at'.b, jv at'.v n.v, at'.m && n.m⟩ r else at' :: dropK n r
/-- The specification: what is put out from the second bound on. -/
def tidyR (v : VV) (mb : Bool) : List (List Y) → List VV → List Bool → List (List Y) × List VV × List Bool
 | b :: B, x :: V, m :: M => if b = [] then tidyR (jv v x) (mb && m) B V M else
   (b :: (tidyR noneV true B V M).1, jv v x :: (tidyR noneV true B V M).2.1, (mb && m) :: (tidyR noneV true B V M).2.2)
 | _, _, _ => ([], [], [])
theorem dropK_ne (at' : Lk) (ks : List Lk) : dropK at' ks ≠ [] := by
 cases ks with
 | nil => simp [dropK]
 | cons n r =>
  unfold dropK
  split
  ·exact dropK_ne _ r
  ·simp
termination_by ks.length
theorem dropLast_cons' {α : Type} {a : α} {l : List α} (h : l ≠ []) : (a :: l).dropLast = a :: l.dropLast := by
 cases l with
 | nil => exact absurd rfl h
 | cons b l => rfl
theorem drop_tidy : ∀ (B : List (List Y)) (V : List VV) (M : List Bool) (b : List Y) (v : VV) (mb : Bool) (x : VV) (m : Bool), B ≠ [] → V.length + 1 = B.length → M.length + 1 = B.length → B.getLastD [] ≠ [] → (∀ y, y ∈ V → okB y.1 y.2.1 = true) →
  ((dropK ⟨b, jv v x, mb && m⟩ (linksOf B V M)).map Lk.b, (dropK ⟨b, jv v x, mb && m⟩ (linksOf B V M)).dropLast.map Lk.v, (dropK ⟨b, jv v x, mb && m⟩ (linksOf B V M)).dropLast.map Lk.m)
   = (b :: (tidyR v mb B (x :: V) (m :: M)).1, (tidyR v mb B (x :: V) (m :: M)).2.1, (tidyR v mb B (x :: V) (m :: M)).2.2)
 | [], _, _, _, _, _, _, _, h, _, _, _, _ => absurd rfl h
 | [b1], [], [], b, v, mb, x, m, _, _, _, hl, _ => by
  have h1 : b1 ≠ [] := hl
  simp [linksOf, dropK, tidyR, h1]
 | b1 :: b2 :: B, y :: V, m1 :: M, b, v, mb, x, m, _, hv, hm, hl, hok => by
  have IH := fun b v mb x m => drop_tidy (b2 :: B) V M b v mb x m (by simp) (by simp at hv ⊢; omega) (by simp at hm ⊢; omega) (by simpa using hl) (fun z hz => hok z (List.mem_cons_of_mem _ hz))
  have el : linksOf (b1 :: b2 :: B) (y :: V) (m1 :: M) = ⟨b1, y, m1⟩ :: linksOf (b2 :: B) V M := rfl
  rw [el]
  by_cases h1 : b1 = []
  ·have e1 : dropK ⟨b, jv v x, mb && m⟩ (⟨b1, y, m1⟩ :: linksOf (b2 :: B) V M) = dropK ⟨b, jv (jv v x) y, (mb && m) && m1⟩ (linksOf (b2 :: B) V M) := by rw [dropK, if_pos h1]
   have e2 : tidyR v mb (b1 :: b2 :: B) (x :: y :: V) (m :: m1 :: M) = tidyR (jv v x) (mb && m) (b2 :: B) (y :: V) (m1 :: M) := by rw [tidyR, if_pos h1]
   rw [e1, e2]
   exact IH b (jv v x) (mb && m) y m1
  ·have e1 : dropK ⟨b, jv v x, mb && m⟩ (⟨b1, y, m1⟩ :: linksOf (b2 :: B) V M) = ⟨b, jv v x, mb && m⟩ :: dropK ⟨b1, jv noneV y, true && m1⟩ (linksOf (b2 :: B) V M) := by rw [dropK, if_neg h1, jv_none (hok y List.mem_cons_self), Bool.true_and]
   have e2 : tidyR v mb (b1 :: b2 :: B) (x :: y :: V) (m :: m1 :: M) = (b1 :: (tidyR noneV true (b2 :: B) (y :: V) (m1 :: M)).1, jv v x :: (tidyR noneV true (b2 :: B) (y :: V) (m1 :: M)).2.1, (mb && m) :: (tidyR noneV true (b2 :: B) (y :: V) (m1 :: M)).2.2) := by rw [tidyR, if_neg h1]
   have H := IH b1 noneV true y m1
   simp only [Prod.mk.injEq] at H
   obtain ⟨H1, H2, H3⟩ := H
   rw [e1, e2, dropLast_cons' (dropK_ne _ _)]
   simp only [List.map_cons, H1, H2, H3]
 | [_], _ :: _, _, _, _, _, _, _, _, h, _, _, _ => by simp at h
 | [_], [], _ :: _, _, _, _, _, _, _, _, h, _, _ => by simp at h
 | _ :: _ :: _, [], _, _, _, _, _, _, _, h, _, _, _ => by simp at h
 | _ :: _ :: _, _ :: _, [], _, _, _, _, _, _, _, h, _, _ => by simp at h
/-- The terms that go, and those that stay. -/
theorem out_same {lv : Int} {T G l : List Y} (h : ∀ p, p ∈ G ↔ p ∈ T ∧ p ≠ (0, 0) ∧ p ≠ (lv, 0)) : outS l G = outD lv T l := by
 unfold outS outD
 congr 1
 funext p
 have := h p
 unfold keepD
 by_cases h1 : p = (0, 0) <;> by_cases h2 : p = (lv, 0) <;> by_cases h3 : p ∈ T <;> simp_all
end Go.Proofs.YtodjmpocpfkpaaaGreat
namespace Go.Proofs.YtodjmpocpfkpaaaGreat
open Go.RowKit

def filL (G : List Y) (k : Lk) : Lk := ⟨outS k.b G, k.v, k.m⟩
theorem links_map (G : List Y) : ∀ (B : List (List Y)) (V : List VV) (M : List Bool), (linksOf B V M).map (filL G) = linksOf (B.map fun b => outS b G) V M
 | [], _, _ => rfl
 | [_], _, _ => rfl
 | b :: b2 :: B, V, M => by
  have IH := links_map G (b2 :: B) V.tail M.tail
  show filL G _ :: List.map (filL G) (linksOf (b2 :: B) V.tail M.tail) = _
  rw [IH]
  rfl
def dropSG (lv : Int) (T : List Y) (S : SG) : SG :=
 match S.B.map (outD lv T) with
 | [] => noS
 | b :: B => ⟨b :: (tidyR noneV true B S.V S.M).1, (tidyR noneV true B S.V S.M).2.1, (tidyR noneV true B S.V S.M).2.2⟩
def dropL : List Lk → List Lk
 | [] => []
 | k :: r => dropK k r
def segL (ks : List Lk) : SG := ⟨ks.map Lk.b, ks.dropLast.map Lk.v, ks.dropLast.map Lk.m⟩
theorem drop_all {lv : Int} {T G : List Y} (S : SG) (hG : ∀ p, p ∈ G ↔ p ∈ T ∧ p ≠ (0, 0) ∧ p ≠ (lv, 0)) (hv : S.V.length + 1 = S.B.length) (hm : S.M.length + 1 = S.B.length) (hlast : (0, 0) ∈ S.B.getLastD [] ∨ (lv, 0) ∈ S.B.getLastD []) (hok : ∀ y, y ∈ S.V → okB y.1 y.2.1 = true) :
  segL (dropL ((linksOf S.B S.V S.M).map (filL G))) = dropSG lv T S := by
 have hO : ∀ b : List Y, outS b G = outD lv T b := fun b => out_same hG
 rw [links_map]
 simp only [hO]
 obtain ⟨B, V, M⟩ := S
 simp only at hv hm hlast hok ⊢
 match B, V, M, hv, hm, hlast, hok with
 | [], _, _, hv, _, _, _ => simp at hv
 | [b], [], [], _, _, _, _ => rfl
 | [_], _ :: _, _, hv, _, _, _ => simp at hv
 | [_], [], _ :: _, _, hm, _, _ => simp at hm
 | _ :: _ :: _, [], _, hv, _, _, _ => simp at hv
 | _ :: _ :: _, _ :: _, [], _, hm, _, _ => simp at hm
 | b :: b1 :: B, x :: V, m :: M, hv, hm, hlast, hok =>
  have hl : ((b1 :: B).map (outD lv T)).getLastD [] ≠ [] := by
   have e : ∀ (L : List (List Y)) (d : List Y), (L.map (outD lv T)).getLastD (outD lv T d) = outD lv T (L.getLastD d) := by
    intro L
    induction L with
    | nil => intro d; rfl
    | cons a L ih => intro d; simp only [List.map_cons, List.getLastD_cons]; exact ih a
   have e1 := e (b1 :: B) []
   have e2 : outD lv T [] = [] := rfl
   rw [e2] at e1
   rw [e1]
   have hl2 : (b :: b1 :: B).getLastD [] = (b1 :: B).getLastD [] := by simp
   rw [hl2] at hlast
   intro h0
   have hm : ∀ p, p ∈ (b1 :: B).getLastD [] → keepD lv T p = false := fun p hp => by
    cases hk : keepD lv T p with
    | false => rfl
    | true =>
     have : p ∈ outD lv T ((b1 :: B).getLastD []) := List.mem_filter.2 ⟨hp, hk⟩
     rw [h0] at this
     simp at this
   rcases hlast with h | h
   ·have := hm _ h; simp [keepD] at this
   ·have := hm _ h; simp [keepD] at this
  have H := drop_tidy ((b1 :: B).map (outD lv T)) V M (outD lv T b) noneV true x m (by simp) (by simp at hv ⊢; omega) (by simp at hm ⊢; omega) hl (fun y hy => hok y (List.mem_cons_of_mem _ hy))
  rw [jv_none (hok x List.mem_cons_self), Bool.true_and] at H
  simp only [Prod.mk.injEq] at H
  obtain ⟨H1, H2, H3⟩ := H
  show SG.mk ((dropK ⟨outD lv T b, x, m⟩ (linksOf ((b1 :: B).map (outD lv T)) V M)).map Lk.b) ((dropK ⟨outD lv T b, x, m⟩ (linksOf ((b1 :: B).map (outD lv T)) V M)).dropLast.map Lk.v) ((dropK ⟨outD lv T b, x, m⟩ (linksOf ((b1 :: B).map (outD lv T)) V M)).dropLast.map Lk.m) = _
  rw [H1, H2, H3]
  rfl
end Go.Proofs.YtodjmpocpfkpaaaGreat
