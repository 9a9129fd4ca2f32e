/-
  PLAIN FACTS: a program is read back from its text.
-/
import Derived.Test.YtedfnadgmhjojaaGreatDoorMRts
import Derived.Test.YtedfnadgmhjojaaGreatDoorMRpars
namespace Go.Proofs.YtedfnadgmhjojaaGreatDoor
open Go.RowKit
open Pl

theorem decl_rt {ws : List W3} (hw : WsOk ws) (t : T) (hg : GoodD t) {i : Nat} {rest : List ByteArray} (hX : X ws i = tL t ++ rest) : mDecl ws i = .ok t (i + (tL t).length) ∧ (isW ws i ⟨#[118, 97, 114]⟩ || isW ws i ⟨#[97, 114, 114, 97, 121]⟩) = true ∧ 1 ≤ (tL t).length := by
 obtain ⟨k, s, m, kk⟩ := t
 rw [tL_eq] at hX ⊢
 cases decl_shape hg with
 | var h hk hn hm =>
   subst h hk hm
   have hX' : X ws i = (⟨#[118, 97, 114]⟩ : ByteArray) :: s :: (⟨#[59]⟩ : ByteArray) :: rest := hX
   obtain ⟨_, _, x1, _⟩ := X_at hX'
   obtain ⟨_, ht, x2, _⟩ := X_at x1
   have k1 := X_kind hw x1
   rw [name_kind hn] at k1
   refine ⟨?_, by rw [this hX']; rfl, by show 1 ≤ 3; decide⟩
   unfold mDecl wantK want
   rw [if_pos (this hX'), if_pos k1, if_pos (this x2), ht]
   rfl
 | arr h hk hn h0 h1 =>
   subst h hk
   have hX' : X ws i = (⟨#[97, 114, 114, 97, 121]⟩ : ByteArray) :: s :: (⟨#[91]⟩ : ByteArray) :: numS m :: (⟨#[93]⟩ : ByteArray) :: (⟨#[59]⟩ : ByteArray) :: rest := hX
   obtain ⟨_, _, x1, _⟩ := X_at hX'
   obtain ⟨_, ht, x2, _⟩ := X_at x1
   obtain ⟨_, _, x3, _⟩ := X_at x2
   obtain ⟨_, tn, x4, w4⟩ := X_at x3
   obtain ⟨_, _, x5, _⟩ := X_at x4
   have k1 := X_kind hw x1
   rw [name_kind hn] at k1
   refine ⟨?_, by rw [this hX']; simp, by show 1 ≤ 6; decide⟩
   unfold mDecl wantK want
   rw [if_neg (by rw [other hX' (by decide)]; decide), if_pos (this hX'), if_pos k1, if_pos (this x2)]
   by_cases hm : 0 ≤ m
   ·have hnum : numS m = dec m.toNat := by unfold numS; rw [if_pos hm]
    obtain ⟨d1, d2⟩ := dec_num (n := m.toNat) (by omega)
    have k3 := X_kind hw x3
    rw [hnum, num_kind d1] at k3
    rw [if_neg (by rw [show isW ws (i + 3) ⟨#[63]⟩ = false from num_words hw k3 (by decide)]; decide), if_pos (show kindW ws (i + 3) = 2 from k3), if_pos (show isW ws (i + 4) ⟨#[93]⟩ = true from this x4), if_pos (show isW ws (i + 5) ⟨#[59]⟩ = true from this x5), ht, show textW ws (i + 3) = numS m from tn, hnum, d2]
    rw [show ((m.toNat : Nat) : Int) = m by omega]
    rfl
   ·have hnum : numS m = ⟨#[63]⟩ := by unfold numS; rw [if_neg hm]
    rw [hnum] at x3
    have hm1 : m = -1 := by omega
    subst hm1
    rw [if_pos (show isW ws (i + 3) ⟨#[63]⟩ = true from this x3), if_pos (show isW ws (i + 4) ⟨#[93]⟩ = true from this x4), if_pos (show isW ws (i + 5) ⟨#[59]⟩ = true from this x5), ht]
    rfl
theorem X_end {ws : List W3} {i : Nat} (h : X ws i = []) : ¬ i < ws.length := by
 unfold X at h
 have := congrArg List.length h
 simp at this
 omega
theorem X_len {ws : List W3} {i : Nat} {l : List ByteArray} (h : X ws i = l) : l.length = ws.length - i := by
 rw [← h]; unfold X; simp
theorem all_rt {ws : List W3} (hw : WsOk ws) {F : Nat} (hF : 5 * ws.length + 3 ≤ F) (ds : List T) (kk : List T) (hg : ∀ t ∈ kk, GoodS t) : ∀ (acc : List T) (i g : Nat), X ws i = (tLs kk).flatten → kk.length + 1 ≤ g →
    ∃ j, mAll ws F ds g acc i = .ok (.node 40 nil_ 0 (ds ++ [.node 30 nil_ 0 (acc ++ kk)])) j := by
 induction kk with
 | nil =>
   intro acc i g hX hgf
   obtain ⟨g1, rfl⟩ : ∃ g1, g = g1 + 1 := ⟨g - 1, by omega⟩
   simp only [mAll]
   rw [if_neg (X_end (by rw [hX]; rfl)), List.append_nil]
   exact ⟨i, rfl⟩
 | cons t r ih =>
   intro acc i g hX hgf
   have hfl : (tLs (t :: r)).flatten = tL t ++ (tLs r).flatten := by simp only [tLs, List.flatten_cons]
   rw [hfl] at hX
   obtain ⟨s, q, he, hod⟩ := stmt_head t (hg t (by simp))
   obtain ⟨g1, rfl⟩ : ∃ g1, g = g1 + 1 := ⟨g - 1, by omega⟩
   have hil : i < ws.length := by
    rw [he] at hX
    exact (X_at (r := q ++ (tLs r).flatten) hX).1
   have hlen := X_len hX
   rw [List.length_append] at hlen
   have hel : ((tLs r).flatten).head? ≠ some ELSE := by
    cases r with
    | nil => simp [tLs]
    | cons y r2 =>
      obtain ⟨s2, q2, he2, hod2⟩ := stmt_head y (hg y (by simp))
      simp only [tLs, List.flatten_cons, he2, List.cons_append]
      exact hne (hod2 _ (.inl rfl))
   have e1 := (stmt_rt hw (F := F) t).S (hg t (by simp)) i _ F hX hel (by omega) (by omega)
   obtain ⟨j, e2⟩ := ih (fun x hx => hg x (by simp [hx])) (acc ++ [t]) (i + (tL t).length) g1 (X_app hX) (by simp at hgf; omega)
   refine ⟨j, ?_⟩
   simp only [mAll]
   rw [if_pos hil, e1]
   simp only [Res.then_]
   rw [e2, List.append_assoc]
   rfl
theorem prog_rt {ws : List W3} (hw : WsOk ws) {F : Nat} (hF : 5 * ws.length + 3 ≤ F) (dd ss : List T) (hd : ∀ t ∈ dd, GoodD t) (hs : ∀ t ∈ ss, GoodS t) (hsl : ss.length + 1 ≤ F) : ∀ (ds : List T) (i f : Nat), X ws i = (tLs dd).flatten ++ (tLs ss).flatten → dd.length + 1 ≤ f →
    ∃ j, mProg ws F f ds i = .ok (.node 40 nil_ 0 (ds ++ dd ++ [.node 30 nil_ 0 ss])) j := by
 induction dd with
 | nil =>
   intro ds i f hX hf
   obtain ⟨f1, rfl⟩ : ∃ f1, f = f1 + 1 := ⟨f - 1, by omega⟩
   have hX' : X ws i = (tLs ss).flatten := by rw [hX]; simp [tLs]
   have no : ∀ o, Odd o → isW ws i o = false := fun o ho => by
    refine X_not hX' ?_
    cases ss with
    | nil => simp [tLs]
    | cons y r2 =>
      obtain ⟨s2, q2, he2, hod2⟩ := stmt_head y (hs y (by simp))
      simp only [tLs, List.flatten_cons, he2, List.cons_append]
      exact hne (hod2 _ ho)
   obtain ⟨j, e⟩ := all_rt hw hF ds ss hs [] i F hX' hsl
   refine ⟨j, ?_⟩
   simp only [mProg]
   rw [if_neg (by rw [no _ (.inr (.inr (.inl rfl))), no _ (.inr (.inr (.inr rfl)))]; decide), e, List.append_nil, List.nil_append]
 | cons t r ih =>
   intro ds i f hX hf
   have hfl : (tLs (t :: r)).flatten = tL t ++ (tLs r).flatten := by simp only [tLs, List.flatten_cons]
   rw [hfl, List.append_assoc] at hX
   obtain ⟨f1, rfl⟩ : ∃ f1, f = f1 + 1 := ⟨f - 1, by omega⟩
   obtain ⟨e1, e2, _⟩ := decl_rt hw t (hd t (by simp)) hX
   obtain ⟨j, e3⟩ := ih (fun x hx => hd x (by simp [hx])) (ds ++ [t]) (i + (tL t).length) f1 (X_app hX) (by simp at hf; omega)
   refine ⟨j, ?_⟩
   simp only [mProg]
   rw [if_pos e2, e1]
   simp only [Res.then_]
   rw [e3]
   simp
theorem flat_len {kk : List T} (h : ∀ t ∈ kk, 1 ≤ (tL t).length) : kk.length ≤ (tLs kk).flatten.length := by
 induction kk with
 | nil => exact Nat.zero_le _
 | cons t r ih =>
   simp only [tLs, List.flatten_cons, List.length_append, List.length_cons]
   have := h t (by simp)
   have := ih fun x hx => h x (by simp [hx])
   omega
theorem tLs_app (p q : List T) : tLs (p ++ q) = tLs p ++ tLs q := by
 induction p with
 | nil => rfl
 | cons t r ih => simp only [List.cons_append, tLs, ih]
/-- A program's text, where it has no fault in its words, is read as the program. -/
theorem print_parse {s : ByteArray} {m : Int} {kk : List T} (h : formedT (.node 40 s m kk) = true) (hc : cnt (.node 40 s m kk) ≤ 500) (hd : dep (.node 40 s m kk) ≤ 24) (hw : (wordsI (lnS (.node 40 s m kk) ⟨#[]⟩)).2.1 = 0) :
    parseI (lnS (.node 40 s m kk) ⟨#[]⟩) = (.node 40 s m kk, 0, 0) := by
 obtain ⟨k1, k2⟩ := chunk_words (prog_chunk h Gap) (by rw [Lib.mk_data]; exact hw)
 rw [Lib.mk_data] at k1 k2
 obtain ⟨r1, r2, ds, ss, r3, g1, g2⟩ := prog_shape h
 unfold parseI
 rw [if_neg (by rw [hw]; decide)]
 generalize (wordsI (lnS (.node 40 s m kk) ⟨#[]⟩)).1 = ws at k1 k2
 have hX : X ws 0 = (tLs ds).flatten ++ (tLs ss).flatten := by
  unfold X
  rw [List.drop_zero, k1, tL_eq, r3]
  show (tLs (ds ++ [.node 30 nil_ 0 ss])).flatten = _
  rw [tLs_app, List.flatten_append]
  congr 1
  simp only [tLs, List.flatten_cons, List.flatten_nil, List.append_nil]
  rw [tL_eq]
  rfl
 have hl := X_len hX
 rw [List.length_append] at hl
 have l1 := flat_len (kk := ds) (fun t ht => by
  obtain ⟨tk, ts, tm, tkk⟩ := t
  have := g1 _ ht
  rw [tL_eq]
  cases decl_shape this with
  | var h hk hn hm => subst h hk hm; show 1 ≤ 3; decide
  | arr h hk hn h0 h1 => subst h hk; show 1 ≤ 6; decide)
 have l2 := flat_len (kk := ss) (fun t ht => by obtain ⟨a, b, e, _⟩ := stmt_head t (g2 t ht); rw [e]; simp)
 obtain ⟨j, e⟩ := prog_rt (ws := ws) (F := fuelI ws) k2 (by unfold fuelI; omega) ds ss g1 g2 (by unfold fuelI; omega) [] 0 (fuelI ws) hX (by unfold fuelI; omega)
 rw [e, List.nil_append]
 simp only
 rw [r1, r2, r3] at hc hd ⊢
 rw [if_pos ⟨hd, hc⟩]
end Go.Proofs.YtedfnadgmhjojaaGreatDoor
