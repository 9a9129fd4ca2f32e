/-
  PLAIN FACTS: the words of an expression are read as it.
  THE TEXT OF A DECLARATION, STATEMENT, BLOCK OR PROGRAM, and its words; what formed ones look like.
-/
import Derived.Test.YtedfnadgmhjojaaGreatDoorMToks
namespace Go.Proofs.YtedfnadgmhjojaaGreatDoor
open Go.RowKit
open Pl

/-- The words from place i on. -/
def X (ws : List W3) (i : Nat) : List ByteArray := (ws.map W3.s).drop i
theorem X_at {ws : List W3} {i : Nat} {s : ByteArray} {r : List ByteArray} (h : X ws i = s :: r) : i < ws.length ∧ textW ws i = s ∧ X ws (i + 1) = r ∧ ∀ t, isW ws i t = decide (s = t) := by
 unfold X at h ⊢
 have hl : i < ws.length := by
  rcases Nat.lt_or_ge i ws.length with q | q
  ·exact q
  ·rw [List.drop_eq_nil_of_le (by simpa using q)] at h; cases h
 have hd := List.drop_eq_getElem_cons (l := ws.map W3.s) (i := i) (by simpa using hl)
 rw [hd] at h
 injection h with h1 h2
 have ht : textW ws i = s := by
  unfold textW
  rw [List.getElem?_eq_getElem hl]
  simpa using h1
 exact ⟨hl, ht, h2, fun t => by rw [isW_of_text hl, ht]⟩
theorem X_kind {ws : List W3} (hw : WsOk ws) {i : Nat} {s : ByteArray} {r : List ByteArray} (h : X ws i = s :: r) : kindW ws i = kindI s := by
 obtain ⟨_, _, _, h4⟩ := X_at h
 exact isW_kind hw (by rw [h4]; simp)
theorem X_app {ws : List W3} {i : Nat} {a r : List ByteArray} (h : X ws i = a ++ r) : X ws (i + a.length) = r := by
 unfold X at h ⊢
 rw [← List.drop_drop, h, List.drop_left]
theorem X_not {ws : List W3} {i : Nat} {r : List ByteArray} {t : ByteArray} (h : X ws i = r) (hn : r.head? ≠ some t) : isW ws i t = false := by
 cases r with
 | nil =>
   refine isW_end _ ?_
   unfold X at h
   have := congrArg List.length h
   simp at this
   omega
 | cons s q =>
   rw [(X_at h).2.2.2]
   simp at hn ⊢
   exact hn
theorem hne {s t : ByteArray} {r : List ByteArray} (h : s ≠ t) : (s :: r).head? ≠ some t := by simpa using h
def STAR : ByteArray := ⟨#[42]⟩
def OPEN : ByteArray := ⟨#[91]⟩
structure Rt (ws : List W3) (e : T) : Prop where
 S : ∀ (i : Nat) (rest : List ByteArray) (f : Nat), X ws i = tE e ++ rest → rest.head? ≠ some STAR → rest.head? ≠ some OPEN → 5 * (tE e).length + 3 ≤ f → ∃ f', f ≤ f' + 1 + (tE e).length ∧ mExpr ws f i = mExprL ws f' e (i + (tE e).length)
 M : 2 ≤ tightI (kindT e) → ∀ (i : Nat) (rest : List ByteArray) (f : Nat), X ws i = tE e ++ rest → rest.head? ≠ some OPEN → 5 * (tE e).length + 2 ≤ f → ∃ f', f ≤ f' + 1 + (tE e).length ∧ mTerm ws f i = mTermL ws f' e (i + (tE e).length)
 O : 3 ≤ tightI (kindT e) → ∀ (i : Nat) (rest : List ByteArray) (f : Nat), X ws i = tE e ++ rest → rest.head? ≠ some OPEN → 5 * (tE e).length + 1 ≤ f → mOne ws f i = .ok e (i + (tE e).length)
 pos : 1 ≤ (tE e).length
theorem termL_ok {ws : List W3} {f : Nat} {e : T} {j : Nat} (h : isW ws j STAR = false) (hf : 1 ≤ f) : mTermL ws f e j = .ok e j := by
 obtain ⟨g, rfl⟩ : ∃ g, f = g + 1 := ⟨f - 1, by omega⟩
 simp only [mTermL]
 rw [if_neg (by rw [show isW ws j ⟨#[42]⟩ = false from h]; decide)]
theorem exprL_ok {ws : List W3} {f : Nat} {e : T} {j : Nat} (h1 : isW ws j ⟨#[43]⟩ = false) (h2 : isW ws j ⟨#[45]⟩ = false) (hf : 1 ≤ f) : mExprL ws f e j = .ok e j := by
 obtain ⟨g, rfl⟩ : ∃ g, f = g + 1 := ⟨f - 1, by omega⟩
 simp only [mExprL]
 rw [if_neg (by rw [h1]; decide), if_neg (by rw [h2]; decide)]
/-- From an operand that stands alone up to sums. -/
theorem Rt.ofM {ws : List W3} {e : T} (hp : 1 ≤ (tE e).length) (hM : ∀ (i : Nat) (rest : List ByteArray) (f : Nat), X ws i = tE e ++ rest → rest.head? ≠ some OPEN → 5 * (tE e).length + 2 ≤ f → ∃ f', f ≤ f' + 1 + (tE e).length ∧ mTerm ws f i = mTermL ws f' e (i + (tE e).length))
    (hO : 3 ≤ tightI (kindT e) → ∀ (i : Nat) (rest : List ByteArray) (f : Nat), X ws i = tE e ++ rest → rest.head? ≠ some OPEN → 5 * (tE e).length + 1 ≤ f → mOne ws f i = .ok e (i + (tE e).length)) : Rt ws e := by
 refine ⟨fun i rest f hX h1 h2 hf => ?_, fun _ => hM, hO, hp⟩
 obtain ⟨g, rfl⟩ : ∃ g, f = g + 1 := ⟨f - 1, by omega⟩
 obtain ⟨f', hf', e1⟩ := hM i rest g hX h2 (by omega)
 refine ⟨g, by omega, ?_⟩
 simp only [mExpr]
 rw [e1, termL_ok (X_not (X_app hX) h1) (by omega)]
 rfl
theorem Rt.ofO {ws : List W3} {e : T} (hp : 1 ≤ (tE e).length) (hO : ∀ (i : Nat) (rest : List ByteArray) (f : Nat), X ws i = tE e ++ rest → rest.head? ≠ some OPEN → 5 * (tE e).length + 1 ≤ f → mOne ws f i = .ok e (i + (tE e).length)) : Rt ws e := by
 refine Rt.ofM hp (fun i rest f hX h2 hf => ?_) (fun _ => hO)
 obtain ⟨g, rfl⟩ : ∃ g, f = g + 1 := ⟨f - 1, by omega⟩
 refine ⟨g, by omega, ?_⟩
 simp only [mTerm]
 rw [hO i rest g hX h2 (by omega)]
 rfl
/-- A whole expression, where nothing behind goes on with it. -/
theorem Rt.whole {ws : List W3} {e : T} (h : Rt ws e) {i : Nat} {rest : List ByteArray} {f : Nat} (hX : X ws i = tE e ++ rest) (h1 : rest.head? ≠ some STAR) (h2 : rest.head? ≠ some OPEN) (h3 : rest.head? ≠ some ⟨#[43]⟩) (h4 : rest.head? ≠ some ⟨#[45]⟩) (hf : 5 * (tE e).length + 3 ≤ f) :
    mExpr ws f i = .ok e (i + (tE e).length) := by
 obtain ⟨f', hf', e1⟩ := h.S i rest f hX h1 h2 hf
 have hp := h.pos
 rw [e1, exprL_ok (X_not (X_app hX) h3) (X_not (X_app hX) h4) (by omega)]
/-- In brackets. -/
theorem Rt.inPar {ws : List W3} {e : T} (h : Rt ws e) {i : Nat} {rest : List ByteArray} {f : Nat} (hX : X ws i = ([(⟨#[40]⟩ : ByteArray)] ++ tE e ++ [(⟨#[41]⟩ : ByteArray)]) ++ rest) (hf : 5 * ((tE e).length + 2) + 1 ≤ f) : mOne ws f i = .ok e (i + ((tE e).length + 2)) := by
 obtain ⟨g, rfl⟩ : ∃ g, f = g + 1 := ⟨f - 1, by omega⟩
 have hX' : X ws i = (⟨#[40]⟩ : ByteArray) :: (tE e ++ (⟨#[41]⟩ :: rest)) := by rw [hX]; simp
 obtain ⟨_, _, x1, w1⟩ := X_at hX'
 have hm := h.whole (f := g) x1 (hne (by decide)) (hne (by decide)) (hne (by decide)) (hne (by decide)) (by omega)
 obtain ⟨_, _, _, w2⟩ := X_at (X_app x1)
 simp only [mOne]
 rw [if_neg (by rw [w1]; decide), if_pos (by rw [w1]; decide), hm]
 simp only [Res.then_, want]
 rw [if_pos (by rw [w2]; decide)]
 congr 1; omega
theorem Rt.opO {ws : List W3} {e : T} (h : Rt ws e) {i : Nat} {rest : List ByteArray} {f : Nat} (hX : X ws i = parT (kindT e) (tE e) 3 ++ rest) (h2 : rest.head? ≠ some OPEN) (hf : 5 * (parT (kindT e) (tE e) 3).length + 1 ≤ f) : mOne ws f i = .ok e (i + (parT (kindT e) (tE e) 3).length) := by
 unfold parT at hX hf ⊢
 split
 ·rename_i q
  rw [if_pos q] at hX hf
  have hl : ([(⟨#[40]⟩ : ByteArray)] ++ tE e ++ [(⟨#[41]⟩ : ByteArray)]).length = (tE e).length + 2 := by simp
  rw [hl] at hf ⊢
  exact h.inPar hX hf
 ·rename_i q
  rw [if_neg q] at hX hf
  exact h.O (by omega) i rest f hX h2 hf
theorem Rt.opM {ws : List W3} {e : T} (h : Rt ws e) {i : Nat} {rest : List ByteArray} {f : Nat} (hX : X ws i = parT (kindT e) (tE e) 2 ++ rest) (h2 : rest.head? ≠ some OPEN) (hf : 5 * (parT (kindT e) (tE e) 2).length + 2 ≤ f) :
    ∃ f', f ≤ f' + 1 + (parT (kindT e) (tE e) 2).length ∧ mTerm ws f i = mTermL ws f' e (i + (parT (kindT e) (tE e) 2).length) := by
 unfold parT at hX hf ⊢
 split
 ·rename_i q
  rw [if_pos q] at hX hf
  have hl : ([(⟨#[40]⟩ : ByteArray)] ++ tE e ++ [(⟨#[41]⟩ : ByteArray)]).length = (tE e).length + 2 := by simp
  rw [hl] at hf ⊢
  obtain ⟨g, rfl⟩ : ∃ g, f = g + 1 := ⟨f - 1, by omega⟩
  refine ⟨g, by omega, ?_⟩
  simp only [mTerm]
  rw [h.inPar hX (by omega)]
  rfl
 ·rename_i q
  rw [if_neg q] at hX hf
  exact h.M (by omega) i rest f hX h2 hf
theorem par_pos {k : Int} {t : List ByteArray} {l : Int} (h : 1 ≤ t.length) : 1 ≤ (parT k t l).length := by
 unfold parT
 split
 ·simp
 ·exact h
theorem tight1 (k : Int) : 1 ≤ tightI k := by
 unfold tightI
 split
 ·decide
 ·split <;> decide
theorem par1 (k : Int) (t : List ByteArray) : parT k t 1 = t := by
 unfold parT
 rw [if_neg (by have := tight1 k; omega)]
theorem name_words' {ws : List W3} (hw : WsOk ws) {i : Nat} {s : ByteArray} {r : List ByteArray} (h : X ws i = s :: r) (hn : nameB s = true) : isW ws i ⟨#[45]⟩ = false ∧ isW ws i ⟨#[40]⟩ = false ∧ isW ws i ⟨#[108, 101, 110]⟩ = false ∧ kindW ws i = 1 := by
 have hk : kindW ws i = 1 := by rw [X_kind hw h, name_kind hn]
 refine ⟨name_words hw hk ?_, name_words hw hk ?_, name_words hw hk ?_, hk⟩
 ·exact not_name (by decide)
 ·exact not_name (by decide)
 ·rw [key_not_name (ky rfl)]; decide
theorem sums {ws : List W3} {a b : T} (ha : Rt ws a) (hb : Rt ws b) (k : Int) (c : UInt8) (hc : (k = 6 ∧ c = 43) ∨ (k = 7 ∧ c = 45)) (i : Nat) (rest : List ByteArray) (f : Nat) (hX : X ws i = (parT (kindT a) (tE a) 1 ++ [(⟨#[c]⟩ : ByteArray)] ++ parT (kindT b) (tE b) 2) ++ rest) (h1 : rest.head? ≠ some STAR) (h2 : rest.head? ≠ some OPEN)
    (hf : 5 * (parT (kindT a) (tE a) 1 ++ [(⟨#[c]⟩ : ByteArray)] ++ parT (kindT b) (tE b) 2).length + 3 ≤ f) :
    ∃ f', f ≤ f' + 1 + (parT (kindT a) (tE a) 1 ++ [(⟨#[c]⟩ : ByteArray)] ++ parT (kindT b) (tE b) 2).length ∧ mExpr ws f i = mExprL ws f' (.node k nil_ 0 [a, b]) (i + (parT (kindT a) (tE a) 1 ++ [(⟨#[c]⟩ : ByteArray)] ++ parT (kindT b) (tE b) 2).length) := by
 rw [par1] at hX hf ⊢
 have hl : (tE a ++ [(⟨#[c]⟩ : ByteArray)] ++ parT (kindT b) (tE b) 2).length = (tE a).length + 1 + (parT (kindT b) (tE b) 2).length := by simp; omega
 rw [hl] at hf ⊢
 have hX' : X ws i = tE a ++ ((⟨#[c]⟩ : ByteArray) :: (parT (kindT b) (tE b) 2 ++ rest)) := by rw [hX]; simp
 have hne : ∀ t : UInt8, t ≠ c → ((⟨#[c]⟩ : ByteArray) :: (parT (kindT b) (tE b) 2 ++ rest) : List ByteArray).head? ≠ some ⟨#[t]⟩ := fun t ht => by
  simp only [List.head?_cons, ne_eq, Option.some.injEq]
  intro q
  injection q with q
  injection q with q
  injection q with q
  exact ht q.symm
 have hpb := par_pos (k := kindT b) (l := 2) hb.pos
 obtain ⟨f1, hf1, e1⟩ := ha.S i _ f hX' (hne 42 (by rcases hc with ⟨_, rfl⟩ | ⟨_, rfl⟩ <;> decide)) (hne 91 (by rcases hc with ⟨_, rfl⟩ | ⟨_, rfl⟩ <;> decide)) (by omega)
 obtain ⟨_, _, x2, w2⟩ := X_at (X_app hX')
 obtain ⟨g, rfl⟩ : ∃ g, f1 = g + 1 := ⟨f1 - 1, by omega⟩
 obtain ⟨f2, hf2, e2⟩ := hb.opM (f := g) x2 h2 (by omega)
 refine ⟨g, by omega, ?_⟩
 rw [e1]
 simp only [mExprL]
 have hend : mTerm ws g (i + (tE a).length + 1) = .ok b (i + (tE a).length + 1 + (parT (kindT b) (tE b) 2).length) := by
  rw [e2, termL_ok (X_not (X_app x2) h1) (by omega)]
 rcases hc with ⟨rfl, rfl⟩ | ⟨rfl, rfl⟩
 ·rw [if_pos (by rw [w2]; decide), hend]
  simp only [Res.then_]
  congr 1; omega
 ·rw [if_neg (by rw [w2]; decide), if_pos (by rw [w2]; decide), hend]
  simp only [Res.then_]
  congr 1; omega
theorem no_name {k m : Int} {s : ByteArray} {kk : List T} (h : formedT (.node k s m kk) = true) (hs : (shapeI k).2.1 = false) : s = nil_ := by
 obtain ⟨hh, _, _⟩ := formed_parts h
 unfold formHead at hh
 generalize shapeI k = sh at hh hs
 obtain ⟨ks, nm, sm⟩ := sh
 simp at hh
 simp only at hs
 subst hs
 have := hh.1.1.2
 simp at this
 exact this
theorem no_num {k m : Int} {s : ByteArray} {kk : List T} (h : formedT (.node k s m kk) = true) (q1 : k ≠ 1) (q2 : k ≠ 32) : m = 0 := by
 obtain ⟨_, hn, _⟩ := formed_parts h
 unfold numOk at hn
 rw [if_neg q1, if_neg q2] at hn
 simpa using hn
theorem expr_rt {ws : List W3} (hw : WsOk ws) (e : T) : Good1 e → Rt ws e := by
 refine T.induct (P := fun e => Good1 e → Rt ws e) ?_ e
 intro k s m kk ih hg
 obtain ⟨_, hsh⟩ := good_shape hg.good
 have hg1 := hg.2.1
 have hg2 := hg.2.2
 have hz : (shapeI k).2.1 = false → s = nil_ := no_name hg.1
 have hmz : k ≠ 1 → k ≠ 32 → m = 0 := no_num hg.1
 cases hsh with
 | num h hk h0 h1 =>
   subst h hk
   obtain ⟨d1, d2⟩ := dec_num (n := m.toNat) (by omega)
   have hs := hz rfl
   subst hs
   refine Rt.ofO (by rw [tE0]; exact Nat.le_refl _) (fun i rest f hX _ hf => ?_)
   rw [tE0] at hX hf ⊢
   have hX' : X ws i = dec m.toNat :: rest := hX
   have hk := X_kind hw hX'
   rw [num_kind d1] at hk
   obtain ⟨_, ht, _, _⟩ := X_at hX'
   obtain ⟨g, rfl⟩ : ∃ g, f = g + 1 := ⟨f - 1, by omega⟩
   simp only [mOne]
   rw [if_neg (by rw [num_words hw hk (by decide)]; decide), if_neg (by rw [num_words hw hk (by decide)]; decide), if_neg (by rw [num_words hw hk (by decide)]; decide), if_pos hk, ht, d2]
   rw [show ((m.toNat : Nat) : Int) = m by omega]
   rfl
 | var h hk =>
   subst h hk
   have hn := shape_name hg.1 rfl
   have hm := hmz (by decide) (by decide)
   subst hm
   refine Rt.ofO (by rw [tE0]; exact Nat.le_refl _) (fun i rest f hX h2 hf => ?_)
   rw [tE0] at hX hf ⊢
   have hX' : X ws i = s :: rest := hX
   obtain ⟨_, ht, x1, _⟩ := X_at hX'
   obtain ⟨a1, a2, a3, a4⟩ := name_words' hw hX' hn
   obtain ⟨g, rfl⟩ : ∃ g, f = g + 1 := ⟨f - 1, by omega⟩
   simp only [mOne, wantK]
   rw [if_neg (by rw [a1]; decide), if_neg (by rw [a2]; decide), if_neg (by rw [a3]; decide), if_neg (by rw [a4]; decide), if_pos a4, if_neg (by rw [show isW ws (i + 1) ⟨#[91]⟩ = false from X_not x1 h2]; decide), ht]
   rfl
 | len h hk =>
   subst h hk
   have hn := shape_name hg.1 rfl
   have hm := hmz (by decide) (by decide)
   subst hm
   refine Rt.ofO (by rw [tE0]; show 1 ≤ 4; decide) (fun i rest f hX h2 hf => ?_)
   rw [tE0] at hX hf ⊢
   have hX' : X ws i = (⟨#[108, 101, 110]⟩ : ByteArray) :: (⟨#[40]⟩ : ByteArray) :: s :: (⟨#[41]⟩ : ByteArray) :: rest := hX
   obtain ⟨_, _, x1, w1⟩ := X_at hX'
   obtain ⟨_, _, x2, w2⟩ := X_at x1
   obtain ⟨_, t3, x3, _⟩ := X_at x2
   obtain ⟨_, _, _, w4⟩ := X_at x3
   have hk := X_kind hw x2
   rw [name_kind hn] at hk
   obtain ⟨g, rfl⟩ : ∃ g, f = g + 1 := ⟨f - 1, by omega⟩
   simp only [mOne, want, wantK]
   rw [if_neg (by rw [w1]; decide), if_neg (by rw [w1]; decide), if_pos (by rw [w1]; decide), if_pos (by rw [w2]; decide), if_pos (show kindW ws (i + 2) = 1 from hk), if_pos (show isW ws (i + 3) ⟨#[41]⟩ = true by rw [show isW ws (i + 3) ⟨#[41]⟩ = isW ws (i + 1 + 1 + 1) ⟨#[41]⟩ from rfl, w4]; decide), show textW ws (i + 2) = s from t3]
   rfl
 | cell h x hk hx =>
   subst h hk
   have hn := shape_name hg.1 rfl
   have hm := hmz (by decide) (by decide)
   subst hm
   have rx := ih x (by simp) hx
   have hl : (tE (.node 3 s 0 [x])).length = (tE x).length + 3 := by rw [tE1]; show ([s] ++ [(⟨#[91]⟩ : ByteArray)] ++ tE x ++ [(⟨#[93]⟩ : ByteArray)]).length = _; simp
   refine Rt.ofO (by rw [hl]; omega) (fun i rest f hX h2 hf => ?_)
   rw [hl] at hf ⊢
   rw [tE1] at hX
   have hX' : X ws i = s :: (⟨#[91]⟩ : ByteArray) :: (tE x ++ (⟨#[93]⟩ :: rest)) := by rw [hX]; show ([s] ++ [(⟨#[91]⟩ : ByteArray)] ++ tE x ++ [(⟨#[93]⟩ : ByteArray)]) ++ rest = _; simp
   obtain ⟨_, ht, x1, _⟩ := X_at hX'
   obtain ⟨_, _, x2, w2⟩ := X_at x1
   obtain ⟨a1, a2, a3, a4⟩ := name_words' hw hX' hn
   obtain ⟨g, rfl⟩ : ∃ g, f = g + 1 := ⟨f - 1, by omega⟩
   have hm := rx.whole (f := g) x2 (hne (by decide)) (hne (by decide)) (hne (by decide)) (hne (by decide)) (by omega)
   obtain ⟨_, _, _, w3⟩ := X_at (X_app x2)
   simp only [mOne, want, wantK]
   rw [if_neg (by rw [a1]; decide), if_neg (by rw [a2]; decide), if_neg (by rw [a3]; decide), if_neg (by rw [a4]; decide), if_pos a4, if_pos (by rw [w2]; decide), show mExpr ws g (i + 2) = _ from hm]
   simp only [Res.then_]
   rw [if_pos (show isW ws (i + 1 + 1 + (tE x).length) ⟨#[93]⟩ = true by rw [w3]; decide), ht]
   congr 1; omega
 | neg h x hk hx =>
   subst h hk
   have hs := hz rfl
   subst hs
   have hm := hmz (by decide) (by decide)
   subst hm
   have rx := ih x (by simp) hx
   have hl : (tE (.node 5 nil_ 0 [x])).length = (parT (kindT x) (tE x) 3).length + 1 := by rw [tE1]; show ([(⟨#[45]⟩ : ByteArray)] ++ parT (kindT x) (tE x) 3).length = _; simp
   refine Rt.ofO (by rw [hl]; omega) (fun i rest f hX h2 hf => ?_)
   rw [hl] at hf ⊢
   rw [tE1] at hX
   have hX' : X ws i = (⟨#[45]⟩ : ByteArray) :: (parT (kindT x) (tE x) 3 ++ rest) := by rw [hX]; rfl
   obtain ⟨_, _, x1, w1⟩ := X_at hX'
   obtain ⟨g, rfl⟩ : ∃ g, f = g + 1 := ⟨f - 1, by omega⟩
   simp only [mOne]
   rw [if_pos (by rw [w1]; decide), rx.opO x1 h2 (by omega)]
   simp only [Res.then_]
   congr 1; omega
 | pair h x y hk hx hy =>
   subst hk
   have rx := ih x (by simp) hx
   have ry := ih y (by simp) hy
   have hs : s = nil_ := hz (by rcases h with rfl | rfl | rfl <;> rfl)
   subst hs
   have hm := hmz (by omega) (by omega)
   subst hm
   rcases h with rfl | rfl | rfl
   ·refine ⟨fun i rest f hX h1 h2 hf => ?_, fun q => absurd q (by show ¬ 2 ≤ tightI 6; decide), fun q => absurd q (by show ¬ 3 ≤ tightI 6; decide), ?_⟩
    ·rw [tE2] at hX hf ⊢
     exact sums rx ry 6 43 (.inl ⟨rfl, rfl⟩) i rest f hX h1 h2 hf
    ·rw [tE2]; show 1 ≤ (parT (kindT x) (tE x) 1 ++ [(⟨#[43]⟩ : ByteArray)] ++ parT (kindT y) (tE y) 2).length; simp; omega
   ·refine ⟨fun i rest f hX h1 h2 hf => ?_, fun q => absurd q (by show ¬ 2 ≤ tightI 7; decide), fun q => absurd q (by show ¬ 3 ≤ tightI 7; decide), ?_⟩
    ·rw [tE2] at hX hf ⊢
     exact sums rx ry 7 45 (.inr ⟨rfl, rfl⟩) i rest f hX h1 h2 hf
    ·rw [tE2]; show 1 ≤ (parT (kindT x) (tE x) 1 ++ [(⟨#[45]⟩ : ByteArray)] ++ parT (kindT y) (tE y) 2).length; simp; omega
   ·have hl : (tE (.node 8 nil_ 0 [x, y])).length = (parT (kindT x) (tE x) 2).length + 1 + (parT (kindT y) (tE y) 3).length := by rw [tE2]; show (parT (kindT x) (tE x) 2 ++ [(⟨#[42]⟩ : ByteArray)] ++ parT (kindT y) (tE y) 3).length = _; simp; omega
    refine Rt.ofM (by rw [hl]; omega) (fun i rest f hX h2 hf => ?_) (fun q => absurd q (by show ¬ 3 ≤ tightI 8; decide))
    rw [hl] at hf ⊢
    rw [tE2] at hX
    have hX' : X ws i = parT (kindT x) (tE x) 2 ++ (⟨#[42]⟩ :: (parT (kindT y) (tE y) 3 ++ rest)) := by rw [hX]; show (parT (kindT x) (tE x) 2 ++ [(⟨#[42]⟩ : ByteArray)] ++ parT (kindT y) (tE y) 3) ++ rest = _; simp
    have hpx := par_pos (k := kindT x) (l := 2) rx.pos
    have hpy := par_pos (k := kindT y) (l := 3) ry.pos
    obtain ⟨f1, hf1, e1⟩ := rx.opM (f := f) hX' (hne (by decide)) (by omega)
    obtain ⟨_, _, x2, w2⟩ := X_at (X_app hX')
    obtain ⟨g, rfl⟩ : ∃ g, f1 = g + 1 := ⟨f1 - 1, by omega⟩
    refine ⟨g, by omega, ?_⟩
    rw [e1]
    simp only [mTermL]
    rw [if_pos (by rw [w2]; decide), ry.opO x2 h2 (by omega)]
    simp only [Res.then_]
    congr 1; omega
 | cond h x y hk hx hy =>
   have : k ≤ 8 := hg2
   omega
/-- A condition. -/
theorem cond_rt {ws : List W3} (hw : WsOk ws) {k m : Int} {s : ByteArray} {kk : List T} (hg : Good (.node k s m kk)) (hk : 11 ≤ k) {i : Nat} {rest : List ByteArray} {f : Nat} (hX : X ws i = tE (.node k s m kk) ++ rest) (h1 : rest.head? ≠ some STAR) (h2 : rest.head? ≠ some OPEN) (h3 : rest.head? ≠ some ⟨#[43]⟩) (h4 : rest.head? ≠ some ⟨#[45]⟩)
    (hf : 5 * (tE (.node k s m kk)).length + 3 ≤ f) : mCond ws f i = .ok (.node k s m kk) (i + (tE (.node k s m kk)).length) := by
 obtain ⟨_, hsh⟩ := good_shape hg
 cases hsh with
 | num h => omega
 | var h => omega
 | len h => omega
 | cell h => omega
 | neg h => omega
 | pair h => omega
 | cond h x y hkk hx hy =>
   subst hkk
   obtain ⟨s1, s2⟩ := sign_is h
   have hs : s = nil_ ∧ m = 0 := by
    refine ⟨no_name hg.1 ?_, no_num hg.1 (by omega) (by omega)⟩
    have hk' : k = 11 ∨ k = 12 ∨ k = 13 ∨ k = 14 ∨ k = 15 ∨ k = 16 := by omega
    rcases hk' with rfl | rfl | rfl | rfl | rfl | rfl <;> rfl
   obtain ⟨rfl, rfl⟩ := hs
   have l2 : tE (.node k nil_ 0 [x, y]) = tE x ++ [signI k] ++ tE y := by
    rw [tE2]
    unfold layT
    rw [if_neg (by omega), if_neg (by omega), if_neg (by omega), if_neg (by omega), if_neg (by omega), if_neg (by omega), if_neg (by omega), if_neg (by omega)]
   have hl : (tE (.node k nil_ 0 [x, y])).length = (tE x).length + 1 + (tE y).length := by rw [l2]; simp; omega
   rw [hl] at hf ⊢
   have hX' : X ws i = tE x ++ (signI k :: (tE y ++ rest)) := by rw [hX, l2]; simp
   have hsg : ∀ t : ByteArray, relI t = 0 → (signI k :: (tE y ++ rest)).head? ≠ some t := fun t ht q => by
    simp only [List.head?_cons, Option.some.injEq] at q
    rw [q, ht] at s2
    omega
   have rx := expr_rt hw x hx
   have ry := expr_rt hw y hy
   have e1 := rx.whole (f := f) hX' (hsg _ (by decide)) (hsg _ (by decide)) (hsg _ (by decide)) (hsg _ (by decide)) (by omega)
   obtain ⟨_, ht, x2, _⟩ := X_at (X_app hX')
   have e2 := ry.whole (f := f) x2 h1 h2 h3 h4 (by omega)
   unfold mCond
   rw [e1]
   simp only [Res.then_]
   rw [ht, s2, if_neg (by omega), e2]
   show Res.ok _ _ = _
   congr 1; omega
end Go.Proofs.YtedfnadgmhjojaaGreatDoor
namespace Go.Proofs.YtedfnadgmhjojaaGreatDoor
open Go.RowKit
open Pl

def kidsEmpty : T → Bool
 | .node _ _ _ kk => kk.isEmpty
def catS : List ByteArray → ByteArray
 | [] => ⟨#[]⟩
 | a :: r => a ++ catS r
def e0 (l : List (Int × ByteArray)) (i : Nat) : ByteArray := (l[i]?.getD none2).2
def m0 (l : List ByteArray) (i : Nat) : ByteArray := l[i]?.getD ⟨#[]⟩
def numS (m : Int) : ByteArray := if 0 ≤ m then dec m.toNat else ⟨#[63]⟩
/-- The lines: of the texts of the kids as expressions, as lines further in, as lines as far in; whether the third kid is empty. -/
def layL (k : Int) (s : ByteArray) (m : Int) (pad : ByteArray) (es : List (Int × ByteArray)) (more same : List ByteArray) (z : Bool) : ByteArray :=
 if k = 31 then pad ++ ⟨#[118, 97, 114, 32]⟩ ++ s ++ ⟨#[59, 10]⟩ else
 if k = 32 then pad ++ ⟨#[97, 114, 114, 97, 121, 32]⟩ ++ s ++ ⟨#[91]⟩ ++ numS m ++ ⟨#[93, 59, 10]⟩ else
 if k = 21 then pad ++ s ++ ⟨#[32, 61, 32]⟩ ++ e0 es 0 ++ ⟨#[59, 10]⟩ else
 if k = 22 then pad ++ s ++ ⟨#[91]⟩ ++ e0 es 0 ++ ⟨#[93, 32, 61, 32]⟩ ++ e0 es 1 ++ ⟨#[59, 10]⟩ else
 if k = 23 then pad ++ ⟨#[114, 101, 97, 100, 32]⟩ ++ s ++ ⟨#[59, 10]⟩ else
 if k = 27 then pad ++ ⟨#[99, 104, 101, 99, 107, 32]⟩ ++ e0 es 0 ++ ⟨#[59, 10]⟩ else
 if k = 28 then pad ++ ⟨#[115, 107, 105, 112, 59, 10]⟩ else
 if k = 29 then pad ++ ⟨#[115, 116, 111, 112, 59, 10]⟩ else
 if k = 25 then pad ++ ⟨#[119, 104, 105, 108, 101, 32]⟩ ++ e0 es 0 ++ ⟨#[32, 123, 10]⟩ ++ m0 more 1 ++ pad ++ ⟨#[125, 10]⟩ else
 if k = 26 then pad ++ ⟨#[102, 111, 114, 32]⟩ ++ s ++ ⟨#[32, 102, 114, 111, 109, 32]⟩ ++ e0 es 0 ++ ⟨#[32, 116, 111, 32]⟩ ++ e0 es 1 ++ ⟨#[32, 123, 10]⟩ ++ m0 more 2 ++ pad ++ ⟨#[125, 10]⟩ else
 if k = 24 then (if z then pad ++ ⟨#[105, 102, 32]⟩ ++ e0 es 0 ++ ⟨#[32, 123, 10]⟩ ++ m0 more 1 ++ pad ++ ⟨#[125, 10]⟩ else
  pad ++ ⟨#[105, 102, 32]⟩ ++ e0 es 0 ++ ⟨#[32, 123, 10]⟩ ++ m0 more 1 ++ pad ++ ⟨#[125, 32, 101, 108, 115, 101, 32, 123, 10]⟩ ++ m0 more 2 ++ pad ++ ⟨#[125, 10]⟩) else
 catS same
mutual
def lnS : T → ByteArray → ByteArray
 | .node k s m kk, pad => layL k s m pad (exSs kk) (lnSs kk (pad ++ ⟨#[32, 32]⟩)) (lnSs kk pad) ((kk[2]?.map kidsEmpty).getD true)
def lnSs : List T → ByteArray → List ByteArray
 | [], _ => []
 | t :: r, pad => lnS t pad :: lnSs r pad
end
/-- The words of the lines. -/
def layK (k : Int) (s : ByteArray) (m : Int) (es : List (Int × List ByteArray)) (ls : List (List ByteArray)) (z : Bool) : List ByteArray :=
 let e := fun i => (es[i]?.getD none3).2
 let l := fun i => ls[i]?.getD []
 if k = 31 then [⟨#[118, 97, 114]⟩, s, ⟨#[59]⟩] else
 if k = 32 then [⟨#[97, 114, 114, 97, 121]⟩, s, ⟨#[91]⟩, numS m, ⟨#[93]⟩, ⟨#[59]⟩] else
 if k = 21 then [s, ⟨#[61]⟩] ++ e 0 ++ [⟨#[59]⟩] else
 if k = 22 then [s, ⟨#[91]⟩] ++ e 0 ++ [⟨#[93]⟩, ⟨#[61]⟩] ++ e 1 ++ [⟨#[59]⟩] else
 if k = 23 then [⟨#[114, 101, 97, 100]⟩, s, ⟨#[59]⟩] else
 if k = 27 then [⟨#[99, 104, 101, 99, 107]⟩] ++ e 0 ++ [⟨#[59]⟩] else
 if k = 28 then [⟨#[115, 107, 105, 112]⟩, ⟨#[59]⟩] else
 if k = 29 then [⟨#[115, 116, 111, 112]⟩, ⟨#[59]⟩] else
 if k = 25 then [⟨#[119, 104, 105, 108, 101]⟩] ++ e 0 ++ [⟨#[123]⟩] ++ l 1 ++ [⟨#[125]⟩] else
 if k = 26 then [⟨#[102, 111, 114]⟩, s, ⟨#[102, 114, 111, 109]⟩] ++ e 0 ++ [⟨#[116, 111]⟩] ++ e 1 ++ [⟨#[123]⟩] ++ l 2 ++ [⟨#[125]⟩] else
 if k = 24 then (if z then [⟨#[105, 102]⟩] ++ e 0 ++ [⟨#[123]⟩] ++ l 1 ++ [⟨#[125]⟩] else [⟨#[105, 102]⟩] ++ e 0 ++ [⟨#[123]⟩] ++ l 1 ++ [⟨#[125]⟩, ⟨#[101, 108, 115, 101]⟩, ⟨#[123]⟩] ++ l 2 ++ [⟨#[125]⟩]) else
 ls.flatten
mutual
def tL : T → List ByteArray
 | .node k s m kk => layK k s m (tEs kk) (tLs kk) ((kk[2]?.map kidsEmpty).getD true)
def tLs : List T → List (List ByteArray)
 | [] => []
 | t :: r => tL t :: tLs r
end

/-- A block that is formed. -/
def GoodB (t : T) : Prop := formedT t = true ∧ kindT t = 30
def GoodC (t : T) : Prop := formedT t = true ∧ 11 ≤ kindT t ∧ kindT t ≤ 16
def GoodS (t : T) : Prop := formedT t = true ∧ 21 ≤ kindT t ∧ kindT t ≤ 29
def GoodD (t : T) : Prop := formedT t = true ∧ (kindT t = 31 ∨ kindT t = 32)
theorem GoodC.good {t : T} (h : GoodC t) : Good t := ⟨h.1, .inr h.2⟩
inductive ShpS (k m : Int) (s : ByteArray) (kk : List T) : Prop
 | set (h : k = 21) (x : T) (hk : kk = [x]) (hx : Good1 x) (hn : nameB s = true) (hm : m = 0)
 | put (h : k = 22) (x y : T) (hk : kk = [x, y]) (hx : Good1 x) (hy : Good1 y) (hn : nameB s = true) (hm : m = 0)
 | read (h : k = 23) (hk : kk = []) (hn : nameB s = true) (hm : m = 0)
 | ifs (h : k = 24) (c b d : T) (hk : kk = [c, b, d]) (hc : GoodC c) (hb : GoodB b) (hd : GoodB d) (hs : s = nil_) (hm : m = 0)
 | whil (h : k = 25) (c b : T) (hk : kk = [c, b]) (hc : GoodC c) (hb : GoodB b) (hs : s = nil_) (hm : m = 0)
 | fors (h : k = 26) (x y b : T) (hk : kk = [x, y, b]) (hx : Good1 x) (hy : Good1 y) (hb : GoodB b) (hn : nameB s = true) (hm : m = 0)
 | chec (h : k = 27) (c : T) (hk : kk = [c]) (hc : GoodC c) (hs : s = nil_) (hm : m = 0)
 | skip (h : k = 28) (hk : kk = []) (hs : s = nil_) (hm : m = 0)
 | stop (h : k = 29) (hk : kk = []) (hs : s = nil_) (hm : m = 0)
theorem len1 {kk : List T} (h : kk.length = 1) : ∃ x, kk = [x] := List.length_eq_one_iff.1 h
theorem len2 {kk : List T} (h : kk.length = 2) : ∃ x y, kk = [x, y] := by
 match kk, h with
 | [x, y], _ => exact ⟨x, y, rfl⟩
theorem len3 {kk : List T} (h : kk.length = 3) : ∃ x y z, kk = [x, y, z] := by
 match kk, h with
 | [x, y, z], _ => exact ⟨x, y, z, rfl⟩
theorem arity {k m : Int} {s : ByteArray} {kk : List T} (h : formedT (.node k s m kk) = true) (n : Int) (b : Bool) (e : shapeI k = (n, b, true)) (h0 : 0 ≤ n) : (kk.length : Int) = n := by
 obtain ⟨hh, _, _⟩ := formed_parts h
 unfold formHead at hh
 rw [e] at hh
 simp at hh
 omega
theorem kid_of {k m : Int} {s : ByteArray} {kk : List T} (h : formedT (.node k s m kk) = true) {j : Nat} {t : T} (ht : kk[j]? = some t) : kidI k kk.length j (kindT t) = true ∧ formedT t = true := by
 obtain ⟨_, _, hk⟩ := formed_parts h
 have := hk j t ht
 simpa using this
theorem stmt_shape {k m : Int} {s : ByteArray} {kk : List T} (h : GoodS (.node k s m kk)) : ShpS k m s kk := by
 obtain ⟨h1, h2, h3⟩ := h
 have g2 : 21 ≤ k := h2
 have g3 : k ≤ 29 := h3
 have hm : m = 0 := no_num h1 (by omega) (by omega)
 have kid : ∀ {j : Nat} {t : T}, kk[j]? = some t → kidI k kk.length j (kindT t) = true ∧ formedT t = true := fun ht => kid_of h1 ht
 have hk' : k = 21 ∨ k = 22 ∨ k = 23 ∨ k = 24 ∨ k = 25 ∨ k = 26 ∨ k = 27 ∨ k = 28 ∨ k = 29 := by omega
 rcases hk' with rfl | rfl | rfl | rfl | rfl | rfl | rfl | rfl | rfl
 ·have hl := arity h1 1 true rfl (by decide)
  obtain ⟨x, rfl⟩ := len1 (kk := kk) (by omega)
  obtain ⟨a1, a2⟩ := kid (j := 0) (t := x) rfl
  exact .set rfl x rfl ⟨a2, betw_iff a1⟩ (shape_name h1 rfl) hm
 ·have hl := arity h1 2 true rfl (by decide)
  obtain ⟨x, y, rfl⟩ := len2 (kk := kk) (by omega)
  obtain ⟨a1, a2⟩ := kid (j := 0) (t := x) rfl
  obtain ⟨b1, b2⟩ := kid (j := 1) (t := y) rfl
  exact .put rfl x y rfl ⟨a2, betw_iff a1⟩ ⟨b2, betw_iff b1⟩ (shape_name h1 rfl) hm
 ·have hl := arity h1 0 true rfl (by decide)
  exact .read rfl (List.length_eq_zero_iff.1 (by omega)) (shape_name h1 rfl) hm
 ·have hl := arity h1 3 false rfl (by decide)
  obtain ⟨c, b, d, rfl⟩ := len3 (kk := kk) (by omega)
  obtain ⟨a1, a2⟩ := kid (j := 0) (t := c) rfl
  obtain ⟨b1, b2⟩ := kid (j := 1) (t := b) rfl
  obtain ⟨d1, d2⟩ := kid (j := 2) (t := d) rfl
  exact .ifs rfl c b d rfl ⟨a2, betw_iff a1⟩ ⟨b2, by simpa [kidI] using b1⟩ ⟨d2, by simpa [kidI] using d1⟩ (no_name h1 rfl) hm
 ·have hl := arity h1 2 false rfl (by decide)
  obtain ⟨c, b, rfl⟩ := len2 (kk := kk) (by omega)
  obtain ⟨a1, a2⟩ := kid (j := 0) (t := c) rfl
  obtain ⟨b1, b2⟩ := kid (j := 1) (t := b) rfl
  exact .whil rfl c b rfl ⟨a2, betw_iff a1⟩ ⟨b2, by simpa [kidI] using b1⟩ (no_name h1 rfl) hm
 ·have hl := arity h1 3 true rfl (by decide)
  obtain ⟨x, y, b, rfl⟩ := len3 (kk := kk) (by omega)
  obtain ⟨a1, a2⟩ := kid (j := 0) (t := x) rfl
  obtain ⟨b1, b2⟩ := kid (j := 1) (t := y) rfl
  obtain ⟨d1, d2⟩ := kid (j := 2) (t := b) rfl
  exact .fors rfl x y b rfl ⟨a2, betw_iff a1⟩ ⟨b2, betw_iff b1⟩ ⟨d2, by simpa [kidI] using d1⟩ (shape_name h1 rfl) hm
 ·have hl := arity h1 1 false rfl (by decide)
  obtain ⟨c, rfl⟩ := len1 (kk := kk) (by omega)
  obtain ⟨a1, a2⟩ := kid (j := 0) (t := c) rfl
  exact .chec rfl c rfl ⟨a2, betw_iff a1⟩ (no_name h1 rfl) hm
 ·have hl := arity h1 0 false rfl (by decide)
  exact .skip rfl (List.length_eq_zero_iff.1 (by omega)) (no_name h1 rfl) hm
 ·have hl := arity h1 0 false rfl (by decide)
  exact .stop rfl (List.length_eq_zero_iff.1 (by omega)) (no_name h1 rfl) hm
theorem block_shape {m : Int} {s : ByteArray} {kk : List T} (h : formedT (.node 30 s m kk) = true) : s = nil_ ∧ m = 0 ∧ ∀ t ∈ kk, GoodS t := by
 refine ⟨no_name h rfl, no_num h (by decide) (by decide), fun t ht => ?_⟩
 obtain ⟨j, hj⟩ := List.getElem?_of_mem ht
 obtain ⟨a1, a2⟩ := kid_of h hj
 exact ⟨a2, betw_iff (by simpa [kidI] using a1)⟩
theorem prog_shape {m : Int} {s : ByteArray} {kk : List T} (h : formedT (.node 40 s m kk) = true) : s = nil_ ∧ m = 0 ∧ ∃ ds ss, kk = ds ++ [.node 30 nil_ 0 ss] ∧ (∀ t ∈ ds, GoodD t) ∧ ∀ t ∈ ss, GoodS t := by
 refine ⟨no_name h rfl, no_num h (by decide) (by decide), ?_⟩
 have hne : kk ≠ [] := by
  obtain ⟨hh, _, _⟩ := formed_parts h
  unfold formHead at hh
  simp at hh
  intro e
  subst e
  simp at hh
 obtain ⟨ds, b, rfl⟩ : ∃ ds b, kk = ds ++ [b] := ⟨kk.dropLast, kk.getLast hne, (List.dropLast_concat_getLast hne).symm⟩
 obtain ⟨a1, a2⟩ := kid_of h (j := ds.length) (t := b) (by simp)
 have hb : kindT b = 30 := by simpa [kidI] using a1
 obtain ⟨bk, bs, bm, bkk⟩ := b
 have hb' : bk = 30 := hb
 subst hb'
 obtain ⟨r1, r2, r3⟩ := block_shape a2
 subst r1 r2
 refine ⟨ds, bkk, rfl, fun t ht => ?_, r3⟩
 obtain ⟨j, hj⟩ := List.getElem?_of_mem ht
 have hjl := (List.getElem?_eq_some_iff.1 hj).1
 obtain ⟨c1, c2⟩ := kid_of h (j := j) (t := t) (by rw [List.getElem?_append_left hjl]; exact hj)
 refine ⟨c2, ?_⟩
 have hne2 : j ≠ ds.length := by omega
 simpa [kidI, hne2] using c1
inductive ShpD (k m : Int) (s : ByteArray) (kk : List T) : Prop
 | var (h : k = 31) (hk : kk = []) (hn : nameB s = true) (hm : m = 0)
 | arr (h : k = 32) (hk : kk = []) (hn : nameB s = true) (h0 : -1 ≤ m) (h1 : m ≤ 1000000)
theorem decl_shape {k m : Int} {s : ByteArray} {kk : List T} (h : GoodD (.node k s m kk)) : ShpD k m s kk := by
 obtain ⟨h1, h2⟩ := h
 have h2' : k = 31 ∨ k = 32 := h2
 rcases h2' with rfl | rfl
 ·have hl := arity h1 0 true rfl (by decide)
  exact .var rfl (List.length_eq_zero_iff.1 (by omega)) (shape_name h1 rfl) (no_num h1 (by decide) (by decide))
 ·have hl := arity h1 0 true rfl (by decide)
  obtain ⟨_, hn, _⟩ := formed_parts h1
  have := betw_iff (show betw m (-1) 1000000 = true from hn)
  exact .arr rfl (List.length_eq_zero_iff.1 (by omega)) (shape_name h1 rfl) this.1 this.2
end Go.Proofs.YtedfnadgmhjojaaGreatDoor
