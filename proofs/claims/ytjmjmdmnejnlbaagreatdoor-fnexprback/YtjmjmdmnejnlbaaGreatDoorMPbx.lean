/-
  PLAIN FACTS: the words of statements, blocks, declarations and programs are read as them.
  PLAIN FACTS: a program is read back from its text.
  PLAIN FACTS: an assignment and a check of an expression are read back from their texts, or the text is too long, or has too many words, or is too large.
-/
import Derived.Test.YtjmjmdmnejnlbaaGreatDoorMLnc
import Derived.Test.YtjmjmdmnejnlbaaGreatDoorMSfor
import Derived.Test.YtjmjmdmnejnlbaaGreatDoorMRpars
import Derived.Test.YtjmjmdmnejnlbaaGreatDoorMTox
namespace Go.Proofs.YtjmjmdmnejnlbaaGreatDoor
open Go.RowKit
open Pl

def ELSE : ByteArray := (⟨#[101, 108, 115, 101]⟩ : ByteArray)
/-- A word that no statement opens with. -/
def Odd (t : ByteArray) : Prop := t = ELSE ∨ t = (⟨#[125]⟩ : ByteArray) ∨ t = (⟨#[118, 97, 114]⟩ : ByteArray) ∨ t = (⟨#[97, 114, 114, 97, 121]⟩ : ByteArray)
theorem odd_name {t : ByteArray} (h : Odd t) : kindI t ≠ 1 := by
 rcases h with rfl | rfl | rfl | rfl
 ·rw [key_not_name (ky rfl)]; decide
 ·exact not_name (by decide)
 ·rw [key_not_name (ky rfl)]; decide
 ·rw [key_not_name (ky rfl)]; decide
theorem name_odd {s t : ByteArray} (hn : nameB s = true) (h : Odd t) : s ≠ t := fun e => by
 subst e
 exact odd_name h (name_kind hn)
/-- The first word of a statement. -/
theorem stmt_head (t : T) (h : GoodS t) : ∃ s r, tL t = s :: r ∧ ∀ o, Odd o → s ≠ o := by
 obtain ⟨k, s, m, kk⟩ := t
 have odd : ∀ (w : ByteArray), w ≠ ELSE → w ≠ (⟨#[125]⟩ : ByteArray) → w ≠ (⟨#[118, 97, 114]⟩ : ByteArray) → w ≠ (⟨#[97, 114, 114, 97, 121]⟩ : ByteArray) → ∀ o, Odd o → w ≠ o := fun w a b c d o ho e => by
  rcases ho with q | q | q | q <;> rw [q] at e
  ·exact a e
  ·exact b e
  ·exact c e
  ·exact d e
 rw [tL_eq]
 cases stmt_shape h with
 | set h x hk hx hn hm => subst h hk hm; exact ⟨s, _, rfl, fun o ho => name_odd hn ho⟩
 | put h x y hk hx hy hn hm => subst h hk hm; exact ⟨s, _, rfl, fun o ho => name_odd hn ho⟩
 | read h hk hn hm => subst h hk hm; exact ⟨_, _, rfl, odd _ (by decide) (by decide) (by decide) (by decide)⟩
 | ifs h c b d hk hc hb hd hs hm =>
   subst h hk hs hm
   rw [show ((([c, b, d] : List T)[2]?).map kidsEmpty).getD true = kidsEmpty d from rfl]
   cases kidsEmpty d with
   | true => exact ⟨_, _, rfl, odd _ (by decide) (by decide) (by decide) (by decide)⟩
   | false => exact ⟨_, _, rfl, odd _ (by decide) (by decide) (by decide) (by decide)⟩
 | whil h c b hk hc hb hs hm => subst h hk hs hm; exact ⟨_, _, rfl, odd _ (by decide) (by decide) (by decide) (by decide)⟩
 | fors h x y b hk hx hy hb hn hm => subst h hk hm; exact ⟨_, _, rfl, odd _ (by decide) (by decide) (by decide) (by decide)⟩
 | chec h c hk hc hs hm => subst h hk hs hm; exact ⟨_, _, rfl, odd _ (by decide) (by decide) (by decide) (by decide)⟩
 | skip h hk hs hm => subst h hk hs hm; exact ⟨_, _, rfl, odd _ (by decide) (by decide) (by decide) (by decide)⟩
 | stop h hk hs hm => subst h hk hs hm; exact ⟨_, _, rfl, odd _ (by decide) (by decide) (by decide) (by decide)⟩
/-- A word of letters that is a name is none of the statements' own. -/
theorem name_stmt {ws : List W3} (hw : WsOk ws) {i : Nat} {s : ByteArray} {r : List ByteArray} (h : X ws i = s :: r) (hn : nameB s = true) :
    isW ws i (⟨#[105, 102]⟩ : ByteArray) = false ∧ isW ws i (⟨#[119, 104, 105, 108, 101]⟩ : ByteArray) = false ∧ isW ws i (⟨#[102, 111, 114]⟩ : ByteArray) = false ∧ isW ws i (⟨#[114, 101, 97, 100]⟩ : ByteArray) = false ∧ isW ws i (⟨#[99, 104, 101, 99, 107]⟩ : ByteArray) = false ∧ isW ws i (⟨#[115, 107, 105, 112]⟩ : ByteArray) = false ∧ isW ws i (⟨#[115, 116, 111, 112]⟩ : ByteArray) = false ∧ kindW ws i = 1 := by
 have hk : kindW ws i = 1 := by rw [X_kind hw h, name_kind hn]
 have key : ∀ {t : ByteArray}, keys.contains t.data.toList = true → isW ws i t = false := fun q => name_words hw hk (by rw [key_not_name (ky q)]; decide)
 exact ⟨key rfl, key rfl, key rfl, key rfl, key rfl, key rfl, key rfl, hk⟩
structure Rs (ws : List W3) (F : Nat) (t : T) : Prop where
 S : GoodS t → ∀ (i : Nat) (rest : List ByteArray) (f : Nat), X ws i = tL t ++ rest → rest.head? ≠ some ELSE → 5 * (tL t).length + 3 ≤ F → 3 * (tL t).length + 1 ≤ f → mStmt ws F f i = .ok t (i + (tL t).length)
 B : GoodB t → ∀ (i : Nat) (rest : List ByteArray) (f : Nat), X ws i = ([(⟨#[123]⟩ : ByteArray)] ++ tL t ++ [(⟨#[125]⟩ : ByteArray)]) ++ rest → 5 * (tL t).length + 3 ≤ F → 3 * ((tL t).length + 2) + 2 ≤ f → mBlock ws F f i = .ok t (i + ((tL t).length + 2))
/-- Statements up to the end of a block. -/
theorem list_rt {ws : List W3} {F : Nat} (kk : List T) (hg : ∀ t ∈ kk, GoodS t) (ih : ∀ t ∈ kk, Rs ws F t) (hF : 5 * (tLs kk).flatten.length + 3 ≤ F) : ∀ (acc : List T) (i : Nat) (rest : List ByteArray) (g : Nat),
    X ws i = (tLs kk).flatten ++ ((⟨#[125]⟩ : ByteArray) :: rest) → 3 * (tLs kk).flatten.length + 2 ≤ g → mList ws F g acc i = .ok (.node 30 nil_ 0 (acc ++ kk)) (i + ((tLs kk).flatten.length + 1)) := by
 induction kk with
 | nil =>
   intro acc i rest g hX hf
   obtain ⟨g1, rfl⟩ : ∃ g1, g = g1 + 1 := ⟨g - 1, by omega⟩
   have hX' : X ws i = (⟨#[125]⟩ : ByteArray) :: rest := by rw [hX]; simp [tLs]
   obtain ⟨_, _, _, w1⟩ := X_at hX'
   simp only [mList]
   rw [if_pos (by rw [w1]; decide), List.append_nil]
   simp [tLs]
 | cons t r ihl =>
   intro acc i rest g hX hf
   have hfl : (tLs (t :: r)).flatten = tL t ++ (tLs r).flatten := by simp only [tLs, List.flatten_cons]
   rw [hfl] at hX hf hF ⊢
   rw [List.length_append] at hf hF ⊢
   obtain ⟨s, q, he, hod⟩ := stmt_head t (hg t (by simp))
   have hpos : 1 ≤ (tL t).length := by rw [he]; simp
   obtain ⟨g1, rfl⟩ : ∃ g1, g = g1 + 1 := ⟨g - 1, by omega⟩
   have hX' : X ws i = tL t ++ ((tLs r).flatten ++ ((⟨#[125]⟩ : ByteArray) :: rest)) := by rw [hX]; simp
   have h1 : isW ws i (⟨#[125]⟩ : ByteArray) = false := by
    refine X_not hX' ?_
    rw [he]
    exact hne (hod _ (.inr (.inl rfl)))
   have hel : ((tLs r).flatten ++ ((⟨#[125]⟩ : ByteArray) :: rest)).head? ≠ some ELSE := by
    cases r with
    | nil => simp only [tLs, List.flatten_nil, List.nil_append]; exact hne (by decide)
    | cons y r2 =>
      obtain ⟨s2, q2, he2, hod2⟩ := stmt_head y (hg y (by simp))
      simp only [tLs, List.flatten_cons, he2, List.cons_append]
      exact hne (hod2 _ (.inl rfl))
   have e1 := (ih t (by simp)).S (hg t (by simp)) i _ g1 hX' hel (by omega) (by omega)
   have e2 := ihl (fun x hx => hg x (by simp [hx])) (fun x hx => ih x (by simp [hx])) (by omega) (acc ++ [t]) (i + (tL t).length) rest g1 (X_app hX') (by omega)
   simp only [mList]
   rw [if_neg (by rw [h1]; decide), e1]
   simp only [Res.then_]
   rw [e2, List.append_assoc]
   congr 1; omega
theorem semi_rt {ws : List W3} {F f i j : Nat} {x : T} {rest : List ByteArray} (n0 : isW ws i (⟨#[105, 102]⟩ : ByteArray) = false) (n1 : isW ws i (⟨#[119, 104, 105, 108, 101]⟩ : ByteArray) = false) (n2 : isW ws i (⟨#[102, 111, 114]⟩ : ByteArray) = false) (h : mShort ws F i = .ok x j) (hX : X ws j = (⟨#[59]⟩ : ByteArray) :: rest) : mStmt ws F (f + 1) i = .ok x (j + 1) := by
 obtain ⟨_, _, _, w1⟩ := X_at hX
 rw [stmt_short_eq n0 n1 n2, h]
 simp only [Res.then_, want]
 rw [if_pos (by rw [w1]; decide)]
theorem other {ws : List W3} {i : Nat} {s t : ByteArray} {r : List ByteArray} (h : X ws i = s :: r) (q : s ≠ t) : isW ws i t = false := by rw [(X_at h).2.2.2]; simpa using q
theorem this {ws : List W3} {i : Nat} {s : ByteArray} {r : List ByteArray} (h : X ws i = s :: r) : isW ws i s = true := by rw [(X_at h).2.2.2]; simp
theorem stmt_rt {ws : List W3} (hw : WsOk ws) {F : Nat} (t : T) : Rs ws F t := by
 refine T.induct (P := fun t => Rs ws F t) ?_ t
 intro k s m kk ih
 refine ⟨fun hg i rest f hX hel hF hf => ?_, fun hg i rest f hX hF hf => ?_⟩
 ·rw [tL_eq] at hX hF hf ⊢
  cases stmt_shape hg with
  | set h x hk hx hn hm =>
    subst h hk hm
    rw [tEs1] at hX hF hf ⊢
    have hl : ([s, (⟨#[61]⟩ : ByteArray)] ++ tE x ++ [(⟨#[59]⟩ : ByteArray)]).length = (tE x).length + 3 := by simp
    have hX' : X ws i = s :: (⟨#[61]⟩ : ByteArray) :: (tE x ++ ((⟨#[59]⟩ : ByteArray) :: rest)) := by rw [hX]; show ([s, (⟨#[61]⟩ : ByteArray)] ++ tE x ++ [(⟨#[59]⟩ : ByteArray)]) ++ rest = _; simp
    change 5 * ([s, (⟨#[61]⟩ : ByteArray)] ++ tE x ++ [(⟨#[59]⟩ : ByteArray)]).length + 3 ≤ F at hF
    change 3 * ([s, (⟨#[61]⟩ : ByteArray)] ++ tE x ++ [(⟨#[59]⟩ : ByteArray)]).length + 1 ≤ f at hf
    show _ = Res.ok _ (i + ([s, (⟨#[61]⟩ : ByteArray)] ++ tE x ++ [(⟨#[59]⟩ : ByteArray)]).length)
    rw [hl] at hF hf ⊢
    obtain ⟨f1, rfl⟩ : ∃ f1, f = f1 + 1 := ⟨f - 1, by omega⟩
    obtain ⟨n0, n1, n2, n3, n4, n5, n6, k1⟩ := name_stmt hw hX' hn
    obtain ⟨_, ht, x1, _⟩ := X_at hX'
    obtain ⟨_, _, x2, _⟩ := X_at x1
    have e1 := (expr_rt hw x hx).whole (f := F) x2 (hne (by decide)) (hne (by decide)) (hne (by decide)) (hne (by decide)) (by omega)
    refine (semi_rt (x := .node 21 s 0 [x]) (j := i + 2 + (tE x).length) n0 n1 n2 ?_ (X_app x2)).trans (by congr 1; omega)
    unfold mShort wantK want
    rw [if_neg (by rw [n3]; decide), if_neg (by rw [n4]; decide), if_neg (by rw [n5]; decide), if_neg (by rw [n6]; decide), if_pos k1, if_neg (by rw [other x1 (by decide)]; decide), if_pos (this x1), show mExpr ws F (i + 2) = _ from e1, ht]
    rfl
  | put h x y hk hx hy hn hm =>
    subst h hk hm
    rw [tEs2] at hX hF hf ⊢
    have hl : ([s, (⟨#[91]⟩ : ByteArray)] ++ tE x ++ [(⟨#[93]⟩ : ByteArray), (⟨#[61]⟩ : ByteArray)] ++ tE y ++ [(⟨#[59]⟩ : ByteArray)]).length = (tE x).length + (tE y).length + 5 := by simp; omega
    have hX' : X ws i = s :: (⟨#[91]⟩ : ByteArray) :: (tE x ++ ((⟨#[93]⟩ : ByteArray) :: (⟨#[61]⟩ : ByteArray) :: (tE y ++ ((⟨#[59]⟩ : ByteArray) :: rest)))) := by rw [hX]; show ([s, (⟨#[91]⟩ : ByteArray)] ++ tE x ++ [(⟨#[93]⟩ : ByteArray), (⟨#[61]⟩ : ByteArray)] ++ tE y ++ [(⟨#[59]⟩ : ByteArray)]) ++ rest = _; simp
    change 5 * ([s, (⟨#[91]⟩ : ByteArray)] ++ tE x ++ [(⟨#[93]⟩ : ByteArray), (⟨#[61]⟩ : ByteArray)] ++ tE y ++ [(⟨#[59]⟩ : ByteArray)]).length + 3 ≤ F at hF
    change 3 * ([s, (⟨#[91]⟩ : ByteArray)] ++ tE x ++ [(⟨#[93]⟩ : ByteArray), (⟨#[61]⟩ : ByteArray)] ++ tE y ++ [(⟨#[59]⟩ : ByteArray)]).length + 1 ≤ f at hf
    show _ = Res.ok _ (i + ([s, (⟨#[91]⟩ : ByteArray)] ++ tE x ++ [(⟨#[93]⟩ : ByteArray), (⟨#[61]⟩ : ByteArray)] ++ tE y ++ [(⟨#[59]⟩ : ByteArray)]).length)
    rw [hl] at hF hf ⊢
    obtain ⟨f1, rfl⟩ : ∃ f1, f = f1 + 1 := ⟨f - 1, by omega⟩
    obtain ⟨n0, n1, n2, n3, n4, n5, n6, k1⟩ := name_stmt hw hX' hn
    obtain ⟨_, ht, x1, _⟩ := X_at hX'
    obtain ⟨_, _, x2, _⟩ := X_at x1
    have e1 := (expr_rt hw x hx).whole (f := F) x2 (hne (by decide)) (hne (by decide)) (hne (by decide)) (hne (by decide)) (by omega)
    have x3 := X_app x2
    obtain ⟨_, _, x4, _⟩ := X_at x3
    obtain ⟨_, _, x5, _⟩ := X_at x4
    have e2 := (expr_rt hw y hy).whole (f := F) x5 (hne (by decide)) (hne (by decide)) (hne (by decide)) (hne (by decide)) (by omega)
    refine (semi_rt (x := .node 22 s 0 [x, y]) (j := i + 1 + 1 + (tE x).length + 1 + 1 + (tE y).length) n0 n1 n2 ?_ (X_app x5)).trans (by congr 1; omega)
    unfold mShort wantK want
    rw [if_neg (by rw [n3]; decide), if_neg (by rw [n4]; decide), if_neg (by rw [n5]; decide), if_neg (by rw [n6]; decide), if_pos k1, if_pos (this x1), show mExpr ws F (i + 2) = _ from e1]
    simp only [Res.then_]
    rw [if_pos (this x3), if_pos (this x4), show mExpr ws F (i + 1 + 1 + (tE x).length + 2) = _ from e2, ht]
  | read h hk hn hm =>
    subst h hk hm
    have hX' : X ws i = (⟨#[114, 101, 97, 100]⟩ : ByteArray) :: s :: (⟨#[59]⟩ : ByteArray) :: rest := hX
    change 3 * 3 + 1 ≤ f at hf
    obtain ⟨f1, rfl⟩ : ∃ f1, f = f1 + 1 := ⟨f - 1, by omega⟩
    obtain ⟨_, _, x1, _⟩ := X_at hX'
    obtain ⟨_, ht, x2, _⟩ := X_at x1
    have k1 := X_kind hw x1
    rw [name_kind hn] at k1
    refine semi_rt (x := .node 23 s 0 []) (j := i + 2) (other hX' (by decide)) (other hX' (by decide)) (other hX' (by decide)) ?_ x2
    unfold mShort wantK
    rw [if_pos (this hX'), if_pos k1, ht]
  | chec h c hk hc hs hm =>
    subst h hk hs hm
    rw [tEs1] at hX hF hf ⊢
    have hl : ([(⟨#[99, 104, 101, 99, 107]⟩ : ByteArray)] ++ tE c ++ [(⟨#[59]⟩ : ByteArray)]).length = (tE c).length + 2 := by simp
    have hX' : X ws i = (⟨#[99, 104, 101, 99, 107]⟩ : ByteArray) :: (tE c ++ ((⟨#[59]⟩ : ByteArray) :: rest)) := by rw [hX]; show ([(⟨#[99, 104, 101, 99, 107]⟩ : ByteArray)] ++ tE c ++ [(⟨#[59]⟩ : ByteArray)]) ++ rest = _; simp
    change 5 * ([(⟨#[99, 104, 101, 99, 107]⟩ : ByteArray)] ++ tE c ++ [(⟨#[59]⟩ : ByteArray)]).length + 3 ≤ F at hF
    change 3 * ([(⟨#[99, 104, 101, 99, 107]⟩ : ByteArray)] ++ tE c ++ [(⟨#[59]⟩ : ByteArray)]).length + 1 ≤ f at hf
    show _ = Res.ok _ (i + ([(⟨#[99, 104, 101, 99, 107]⟩ : ByteArray)] ++ tE c ++ [(⟨#[59]⟩ : ByteArray)]).length)
    rw [hl] at hF hf ⊢
    obtain ⟨f1, rfl⟩ : ∃ f1, f = f1 + 1 := ⟨f - 1, by omega⟩
    obtain ⟨_, _, x1, _⟩ := X_at hX'
    obtain ⟨ck, cs, cm, ckk⟩ := c
    have e1 := cond_rt hw hc.good hc.2.1 (f := F) x1 (hne (by decide)) (hne (by decide)) (hne (by decide)) (hne (by decide)) (by omega)
    refine (semi_rt (x := .node 27 nil_ 0 [.node ck cs cm ckk]) (j := i + 1 + (tE (.node ck cs cm ckk)).length) (other hX' (by decide)) (other hX' (by decide)) (other hX' (by decide)) ?_ (X_app x1)).trans (by congr 1; omega)
    unfold mShort
    rw [if_neg (by rw [other hX' (by decide)]; decide), if_pos (this hX'), e1]
    rfl
  | skip h hk hs hm =>
    subst h hk hs hm
    have hX' : X ws i = (⟨#[115, 107, 105, 112]⟩ : ByteArray) :: (⟨#[59]⟩ : ByteArray) :: rest := hX
    change 3 * 2 + 1 ≤ f at hf
    obtain ⟨f1, rfl⟩ : ∃ f1, f = f1 + 1 := ⟨f - 1, by omega⟩
    obtain ⟨_, _, x1, _⟩ := X_at hX'
    refine semi_rt (x := .node 28 nil_ 0 []) (j := i + 1) (other hX' (by decide)) (other hX' (by decide)) (other hX' (by decide)) ?_ x1
    unfold mShort
    rw [if_neg (by rw [other hX' (by decide)]; decide), if_neg (by rw [other hX' (by decide)]; decide), if_pos (this hX')]
  | stop h hk hs hm =>
    subst h hk hs hm
    have hX' : X ws i = (⟨#[115, 116, 111, 112]⟩ : ByteArray) :: (⟨#[59]⟩ : ByteArray) :: rest := hX
    change 3 * 2 + 1 ≤ f at hf
    obtain ⟨f1, rfl⟩ : ∃ f1, f = f1 + 1 := ⟨f - 1, by omega⟩
    obtain ⟨_, _, x1, _⟩ := X_at hX'
    refine semi_rt (x := .node 29 nil_ 0 []) (j := i + 1) (other hX' (by decide)) (other hX' (by decide)) (other hX' (by decide)) ?_ x1
    unfold mShort
    rw [if_neg (by rw [other hX' (by decide)]; decide), if_neg (by rw [other hX' (by decide)]; decide), if_neg (by rw [other hX' (by decide)]; decide), if_pos (this hX')]
  | whil h c b hk hc hb hs hm =>
    subst h hk hs hm
    rw [tEs2, tLs2] at hX hF hf ⊢
    have hl : ([(⟨#[119, 104, 105, 108, 101]⟩ : ByteArray)] ++ tE c ++ [(⟨#[123]⟩ : ByteArray)] ++ tL b ++ [(⟨#[125]⟩ : ByteArray)]).length = (tE c).length + (tL b).length + 3 := by simp; omega
    have hX' : X ws i = (⟨#[119, 104, 105, 108, 101]⟩ : ByteArray) :: (tE c ++ (([(⟨#[123]⟩ : ByteArray)] ++ tL b ++ [(⟨#[125]⟩ : ByteArray)]) ++ rest)) := by rw [hX]; show ([(⟨#[119, 104, 105, 108, 101]⟩ : ByteArray)] ++ tE c ++ [(⟨#[123]⟩ : ByteArray)] ++ tL b ++ [(⟨#[125]⟩ : ByteArray)]) ++ rest = _; simp
    change 5 * ([(⟨#[119, 104, 105, 108, 101]⟩ : ByteArray)] ++ tE c ++ [(⟨#[123]⟩ : ByteArray)] ++ tL b ++ [(⟨#[125]⟩ : ByteArray)]).length + 3 ≤ F at hF
    change 3 * ([(⟨#[119, 104, 105, 108, 101]⟩ : ByteArray)] ++ tE c ++ [(⟨#[123]⟩ : ByteArray)] ++ tL b ++ [(⟨#[125]⟩ : ByteArray)]).length + 1 ≤ f at hf
    show _ = Res.ok _ (i + ([(⟨#[119, 104, 105, 108, 101]⟩ : ByteArray)] ++ tE c ++ [(⟨#[123]⟩ : ByteArray)] ++ tL b ++ [(⟨#[125]⟩ : ByteArray)]).length)
    rw [hl] at hF hf ⊢
    obtain ⟨f1, rfl⟩ : ∃ f1, f = f1 + 1 := ⟨f - 1, by omega⟩
    obtain ⟨_, _, x1, _⟩ := X_at hX'
    obtain ⟨ck, cs, cm, ckk⟩ := c
    have hpc := 0
    have e1 := cond_rt hw hc.good hc.2.1 (f := F) x1 (hne (by decide)) (hne (by decide)) (hne (by decide)) (hne (by decide)) (by omega)
    have hcl : 1 ≤ (tE (.node ck cs cm ckk)).length := by have := adv_cond e1; omega
    have e2 := (ih b (by simp)).B hb _ rest f1 (X_app x1) (by omega) (by omega)
    simp only [mStmt]
    rw [if_neg (by rw [other hX' (by decide)]; decide), if_pos (this hX'), e1]
    simp only [Res.then_]
    rw [e2]
    show Res.ok _ _ = _
    congr 1; omega
  | fors h x y b hk hx hy hb hn hm =>
    subst h hk hm
    rw [tEs3, tLs3] at hX hF hf ⊢
    have hl : ([(⟨#[102, 111, 114]⟩ : ByteArray), s, (⟨#[102, 114, 111, 109]⟩ : ByteArray)] ++ tE x ++ [(⟨#[116, 111]⟩ : ByteArray)] ++ tE y ++ [(⟨#[123]⟩ : ByteArray)] ++ tL b ++ [(⟨#[125]⟩ : ByteArray)]).length = (tE x).length + (tE y).length + (tL b).length + 6 := by simp; omega
    have hX' : X ws i = (⟨#[102, 111, 114]⟩ : ByteArray) :: s :: (⟨#[102, 114, 111, 109]⟩ : ByteArray) :: (tE x ++ ((⟨#[116, 111]⟩ : ByteArray) :: (tE y ++ (([(⟨#[123]⟩ : ByteArray)] ++ tL b ++ [(⟨#[125]⟩ : ByteArray)]) ++ rest)))) := by rw [hX]; show ([(⟨#[102, 111, 114]⟩ : ByteArray), s, (⟨#[102, 114, 111, 109]⟩ : ByteArray)] ++ tE x ++ [(⟨#[116, 111]⟩ : ByteArray)] ++ tE y ++ [(⟨#[123]⟩ : ByteArray)] ++ tL b ++ [(⟨#[125]⟩ : ByteArray)]) ++ rest = _; simp
    change 5 * ([(⟨#[102, 111, 114]⟩ : ByteArray), s, (⟨#[102, 114, 111, 109]⟩ : ByteArray)] ++ tE x ++ [(⟨#[116, 111]⟩ : ByteArray)] ++ tE y ++ [(⟨#[123]⟩ : ByteArray)] ++ tL b ++ [(⟨#[125]⟩ : ByteArray)]).length + 3 ≤ F at hF
    change 3 * ([(⟨#[102, 111, 114]⟩ : ByteArray), s, (⟨#[102, 114, 111, 109]⟩ : ByteArray)] ++ tE x ++ [(⟨#[116, 111]⟩ : ByteArray)] ++ tE y ++ [(⟨#[123]⟩ : ByteArray)] ++ tL b ++ [(⟨#[125]⟩ : ByteArray)]).length + 1 ≤ f at hf
    show _ = Res.ok _ (i + ([(⟨#[102, 111, 114]⟩ : ByteArray), s, (⟨#[102, 114, 111, 109]⟩ : ByteArray)] ++ tE x ++ [(⟨#[116, 111]⟩ : ByteArray)] ++ tE y ++ [(⟨#[123]⟩ : ByteArray)] ++ tL b ++ [(⟨#[125]⟩ : ByteArray)]).length)
    rw [hl] at hF hf ⊢
    obtain ⟨f1, rfl⟩ : ∃ f1, f = f1 + 1 := ⟨f - 1, by omega⟩
    obtain ⟨_, _, x1, _⟩ := X_at hX'
    obtain ⟨_, ht, x2, _⟩ := X_at x1
    obtain ⟨_, _, x3, _⟩ := X_at x2
    have k1 := X_kind hw x1
    rw [name_kind hn] at k1
    have e1 := (expr_rt hw x hx).whole (f := F) x3 (hne (by decide)) (hne (by decide)) (hne (by decide)) (hne (by decide)) (by omega)
    have x4 := X_app x3
    obtain ⟨_, _, x5, _⟩ := X_at x4
    have e2 := (expr_rt hw y hy).whole (f := F) x5 (hne (by decide)) (hne (by decide)) (hne (by decide)) (hne (by decide)) (by omega)
    have e3 := (ih b (by simp)).B hb _ rest f1 (X_app x5) (by omega) (by omega)
    simp only [mStmt, want, wantK]
    rw [if_neg (by rw [other hX' (by decide)]; decide), if_neg (by rw [other hX' (by decide)]; decide), if_pos (this hX'), if_pos k1, if_pos (show isW ws (i + 2) (⟨#[102, 114, 111, 109]⟩ : ByteArray) = true from this x2), show mExpr ws F (i + 3) = _ from e1]
    simp only [Res.then_]
    rw [if_pos (show isW ws (i + 1 + 1 + 1 + (tE x).length) (⟨#[116, 111]⟩ : ByteArray) = true from this x4), show mExpr ws F (i + 1 + 1 + 1 + (tE x).length + 1) = _ from e2]
    simp only
    rw [e3, ht]
    show Res.ok _ _ = _
    congr 1; omega
  | ifs h c b d hk hc hb hd hs hm =>
    subst h hk hs hm
    rw [tEs3, tLs3] at hX hF hf ⊢
    rw [show ((([c, b, d] : List T)[2]?).map kidsEmpty).getD true = kidsEmpty d from rfl] at hX hF hf ⊢
    obtain ⟨ck, cs, cm, ckk⟩ := c
    cases hz : kidsEmpty d with
    | true =>
      rw [hz] at hX hF hf
      have hd0 : d = .node 30 nil_ 0 [] := by
       obtain ⟨dk, dn, dm, dkk⟩ := d
       have q : dk = 30 := hd.2
       subst q
       obtain ⟨r1, r2, _⟩ := block_shape hd.1
       have : dkk = [] := by simpa [kidsEmpty] using hz
       rw [r1, r2, this]
      have hl : ([(⟨#[105, 102]⟩ : ByteArray)] ++ tE (.node ck cs cm ckk) ++ [(⟨#[123]⟩ : ByteArray)] ++ tL b ++ [(⟨#[125]⟩ : ByteArray)]).length = (tE (.node ck cs cm ckk)).length + (tL b).length + 3 := by simp; omega
      have hX' : X ws i = (⟨#[105, 102]⟩ : ByteArray) :: (tE (.node ck cs cm ckk) ++ (([(⟨#[123]⟩ : ByteArray)] ++ tL b ++ [(⟨#[125]⟩ : ByteArray)]) ++ rest)) := by rw [hX]; show ([(⟨#[105, 102]⟩ : ByteArray)] ++ tE (.node ck cs cm ckk) ++ [(⟨#[123]⟩ : ByteArray)] ++ tL b ++ [(⟨#[125]⟩ : ByteArray)]) ++ rest = _; simp
      change 5 * ([(⟨#[105, 102]⟩ : ByteArray)] ++ tE (.node ck cs cm ckk) ++ [(⟨#[123]⟩ : ByteArray)] ++ tL b ++ [(⟨#[125]⟩ : ByteArray)]).length + 3 ≤ F at hF
      change 3 * ([(⟨#[105, 102]⟩ : ByteArray)] ++ tE (.node ck cs cm ckk) ++ [(⟨#[123]⟩ : ByteArray)] ++ tL b ++ [(⟨#[125]⟩ : ByteArray)]).length + 1 ≤ f at hf
      show _ = Res.ok _ (i + ([(⟨#[105, 102]⟩ : ByteArray)] ++ tE (.node ck cs cm ckk) ++ [(⟨#[123]⟩ : ByteArray)] ++ tL b ++ [(⟨#[125]⟩ : ByteArray)]).length)
      rw [hl] at hF hf ⊢
      obtain ⟨f1, rfl⟩ : ∃ f1, f = f1 + 1 := ⟨f - 1, by omega⟩
      obtain ⟨_, _, x1, _⟩ := X_at hX'
      have e1 := cond_rt hw hc.good hc.2.1 (f := F) x1 (hne (by decide)) (hne (by decide)) (hne (by decide)) (hne (by decide)) (by omega)
      have hcl : 1 ≤ (tE (.node ck cs cm ckk)).length := by have := adv_cond e1; omega
      have e2 := (ih b (by simp)).B hb _ rest f1 (X_app x1) (by omega) (by omega)
      have x2 := X_app (X_app x1)
      have hbl : ([(⟨#[123]⟩ : ByteArray)] ++ tL b ++ [(⟨#[125]⟩ : ByteArray)]).length = (tL b).length + 2 := by simp
      rw [hbl] at x2
      simp only [mStmt]
      rw [if_pos (this hX'), e1]
      simp only [Res.then_]
      rw [e2]
      simp only
      rw [if_neg (by rw [show isW ws (i + 1 + (tE (.node ck cs cm ckk)).length + ((tL b).length + 2)) (⟨#[101, 108, 115, 101]⟩ : ByteArray) = false from X_not x2 hel]; decide), hd0]
      congr 1; omega
    | false =>
      rw [hz] at hX hF hf
      have hl : ([(⟨#[105, 102]⟩ : ByteArray)] ++ tE (.node ck cs cm ckk) ++ [(⟨#[123]⟩ : ByteArray)] ++ tL b ++ [(⟨#[125]⟩ : ByteArray), (⟨#[101, 108, 115, 101]⟩ : ByteArray), (⟨#[123]⟩ : ByteArray)] ++ tL d ++ [(⟨#[125]⟩ : ByteArray)]).length = (tE (.node ck cs cm ckk)).length + (tL b).length + (tL d).length + 6 := by simp; omega
      have hX' : X ws i = (⟨#[105, 102]⟩ : ByteArray) :: (tE (.node ck cs cm ckk) ++ (([(⟨#[123]⟩ : ByteArray)] ++ tL b ++ [(⟨#[125]⟩ : ByteArray)]) ++ ((⟨#[101, 108, 115, 101]⟩ : ByteArray) :: (([(⟨#[123]⟩ : ByteArray)] ++ tL d ++ [(⟨#[125]⟩ : ByteArray)]) ++ rest)))) := by rw [hX]; show ([(⟨#[105, 102]⟩ : ByteArray)] ++ tE (.node ck cs cm ckk) ++ [(⟨#[123]⟩ : ByteArray)] ++ tL b ++ [(⟨#[125]⟩ : ByteArray), (⟨#[101, 108, 115, 101]⟩ : ByteArray), (⟨#[123]⟩ : ByteArray)] ++ tL d ++ [(⟨#[125]⟩ : ByteArray)]) ++ rest = _; simp
      change 5 * ([(⟨#[105, 102]⟩ : ByteArray)] ++ tE (.node ck cs cm ckk) ++ [(⟨#[123]⟩ : ByteArray)] ++ tL b ++ [(⟨#[125]⟩ : ByteArray), (⟨#[101, 108, 115, 101]⟩ : ByteArray), (⟨#[123]⟩ : ByteArray)] ++ tL d ++ [(⟨#[125]⟩ : ByteArray)]).length + 3 ≤ F at hF
      change 3 * ([(⟨#[105, 102]⟩ : ByteArray)] ++ tE (.node ck cs cm ckk) ++ [(⟨#[123]⟩ : ByteArray)] ++ tL b ++ [(⟨#[125]⟩ : ByteArray), (⟨#[101, 108, 115, 101]⟩ : ByteArray), (⟨#[123]⟩ : ByteArray)] ++ tL d ++ [(⟨#[125]⟩ : ByteArray)]).length + 1 ≤ f at hf
      show _ = Res.ok _ (i + ([(⟨#[105, 102]⟩ : ByteArray)] ++ tE (.node ck cs cm ckk) ++ [(⟨#[123]⟩ : ByteArray)] ++ tL b ++ [(⟨#[125]⟩ : ByteArray), (⟨#[101, 108, 115, 101]⟩ : ByteArray), (⟨#[123]⟩ : ByteArray)] ++ tL d ++ [(⟨#[125]⟩ : ByteArray)]).length)
      rw [hl] at hF hf ⊢
      obtain ⟨f1, rfl⟩ : ∃ f1, f = f1 + 1 := ⟨f - 1, by omega⟩
      obtain ⟨_, _, x1, _⟩ := X_at hX'
      have e1 := cond_rt hw hc.good hc.2.1 (f := F) x1 (hne (by decide)) (hne (by decide)) (hne (by decide)) (hne (by decide)) (by omega)
      have e2 := (ih b (by simp)).B hb _ _ f1 (X_app x1) (by omega) (by omega)
      have x2 := X_app (X_app x1)
      have hbl : ([(⟨#[123]⟩ : ByteArray)] ++ tL b ++ [(⟨#[125]⟩ : ByteArray)]).length = (tL b).length + 2 := by simp
      rw [hbl] at x2
      obtain ⟨_, _, x3, _⟩ := X_at x2
      have e3 := (ih d (by simp)).B hd _ rest f1 x3 (by omega) (by omega)
      simp only [mStmt]
      rw [if_pos (this hX'), e1]
      simp only [Res.then_]
      rw [e2]
      simp only
      rw [if_pos (this x2), e3]
      show Res.ok _ _ = _
      congr 1; omega
 ·obtain ⟨h1, h2⟩ := hg
  have h2' : k = 30 := h2
  subst h2'
  obtain ⟨r1, r2, r3⟩ := block_shape h1
  subst r1 r2
  rw [tL_eq] at hX hF hf ⊢
  change X ws i = ([(⟨#[123]⟩ : ByteArray)] ++ (tLs kk).flatten ++ [(⟨#[125]⟩ : ByteArray)]) ++ rest at hX
  change 5 * (tLs kk).flatten.length + 3 ≤ F at hF
  change 3 * ((tLs kk).flatten.length + 2) + 2 ≤ f at hf
  show _ = Res.ok _ (i + ((tLs kk).flatten.length + 2))
  obtain ⟨f1, rfl⟩ : ∃ f1, f = f1 + 1 := ⟨f - 1, by omega⟩
  have hX' : X ws i = (⟨#[123]⟩ : ByteArray) :: ((tLs kk).flatten ++ ((⟨#[125]⟩ : ByteArray) :: rest)) := by rw [hX]; simp
  obtain ⟨_, _, x1, _⟩ := X_at hX'
  simp only [mBlock, want]
  rw [if_pos (this hX'), list_rt kk r3 ih hF [] (i + 1) rest f1 x1 (by omega), List.nil_append]
  congr 1; omega
end Go.Proofs.YtjmjmdmnejnlbaaGreatDoor
namespace Go.Proofs.YtjmjmdmnejnlbaaGreatDoor
open Go.RowKit
open Pl

theorem decl_rt {ws : List W3} (hw : WsOk ws) (t : T) (hg : GoodD t) {i : Nat} {rest : List ByteArray} (hX : X ws i = tL t ++ rest) : mDecl ws i = .ok t (i + (tL t).length) ∧ (isW ws i ⟨#[118, 97, 114]⟩ || isW ws i ⟨#[97, 114, 114, 97, 121]⟩) = true ∧ 1 ≤ (tL t).length := by
 obtain ⟨k, s, m, kk⟩ := t
 rw [tL_eq] at hX ⊢
 cases decl_shape hg with
 | var h hk hn hm =>
   subst h hk hm
   have hX' : X ws i = (⟨#[118, 97, 114]⟩ : ByteArray) :: s :: (⟨#[59]⟩ : ByteArray) :: rest := hX
   obtain ⟨_, _, x1, _⟩ := X_at hX'
   obtain ⟨_, ht, x2, _⟩ := X_at x1
   have k1 := X_kind hw x1
   rw [name_kind hn] at k1
   refine ⟨?_, by rw [this hX']; rfl, by show 1 ≤ 3; decide⟩
   unfold mDecl wantK want
   rw [if_pos (this hX'), if_pos k1, if_pos (this x2), ht]
   rfl
 | arr h hk hn h0 h1 =>
   subst h hk
   have hX' : X ws i = (⟨#[97, 114, 114, 97, 121]⟩ : ByteArray) :: s :: (⟨#[91]⟩ : ByteArray) :: numS m :: (⟨#[93]⟩ : ByteArray) :: (⟨#[59]⟩ : ByteArray) :: rest := hX
   obtain ⟨_, _, x1, _⟩ := X_at hX'
   obtain ⟨_, ht, x2, _⟩ := X_at x1
   obtain ⟨_, _, x3, _⟩ := X_at x2
   obtain ⟨_, tn, x4, w4⟩ := X_at x3
   obtain ⟨_, _, x5, _⟩ := X_at x4
   have k1 := X_kind hw x1
   rw [name_kind hn] at k1
   refine ⟨?_, by rw [this hX']; simp, by show 1 ≤ 6; decide⟩
   unfold mDecl wantK want
   rw [if_neg (by rw [other hX' (by decide)]; decide), if_pos (this hX'), if_pos k1, if_pos (this x2)]
   by_cases hm : 0 ≤ m
   ·have hnum : numS m = dec m.toNat := by unfold numS; rw [if_pos hm]
    obtain ⟨d1, d2⟩ := dec_num (n := m.toNat) (by omega)
    have k3 := X_kind hw x3
    rw [hnum, num_kind d1] at k3
    rw [if_neg (by rw [show isW ws (i + 3) ⟨#[63]⟩ = false from num_words hw k3 (by decide)]; decide), if_pos (show kindW ws (i + 3) = 2 from k3), if_pos (show isW ws (i + 4) ⟨#[93]⟩ = true from this x4), if_pos (show isW ws (i + 5) ⟨#[59]⟩ = true from this x5), ht, show textW ws (i + 3) = numS m from tn, hnum, d2]
    rw [show ((m.toNat : Nat) : Int) = m by omega]
    rfl
   ·have hnum : numS m = ⟨#[63]⟩ := by unfold numS; rw [if_neg hm]
    rw [hnum] at x3
    have hm1 : m = -1 := by omega
    subst hm1
    rw [if_pos (show isW ws (i + 3) ⟨#[63]⟩ = true from this x3), if_pos (show isW ws (i + 4) ⟨#[93]⟩ = true from this x4), if_pos (show isW ws (i + 5) ⟨#[59]⟩ = true from this x5), ht]
    rfl
theorem X_end {ws : List W3} {i : Nat} (h : X ws i = []) : ¬ i < ws.length := by
 unfold X at h
 have := congrArg List.length h
 simp at this
 omega
theorem X_len {ws : List W3} {i : Nat} {l : List ByteArray} (h : X ws i = l) : l.length = ws.length - i := by
 rw [← h]; unfold X; simp
theorem all_rt {ws : List W3} (hw : WsOk ws) {F : Nat} (hF : 5 * ws.length + 3 ≤ F) (ds : List T) (kk : List T) (hg : ∀ t ∈ kk, GoodS t) : ∀ (acc : List T) (i g : Nat), X ws i = (tLs kk).flatten → kk.length + 1 ≤ g →
    ∃ j, mAll ws F ds g acc i = .ok (.node 40 nil_ 0 (ds ++ [.node 30 nil_ 0 (acc ++ kk)])) j := by
 induction kk with
 | nil =>
   intro acc i g hX hgf
   obtain ⟨g1, rfl⟩ : ∃ g1, g = g1 + 1 := ⟨g - 1, by omega⟩
   simp only [mAll]
   rw [if_neg (X_end (by rw [hX]; rfl)), List.append_nil]
   exact ⟨i, rfl⟩
 | cons t r ih =>
   intro acc i g hX hgf
   have hfl : (tLs (t :: r)).flatten = tL t ++ (tLs r).flatten := by simp only [tLs, List.flatten_cons]
   rw [hfl] at hX
   obtain ⟨s, q, he, hod⟩ := stmt_head t (hg t (by simp))
   obtain ⟨g1, rfl⟩ : ∃ g1, g = g1 + 1 := ⟨g - 1, by omega⟩
   have hil : i < ws.length := by
    rw [he] at hX
    exact (X_at (r := q ++ (tLs r).flatten) hX).1
   have hlen := X_len hX
   rw [List.length_append] at hlen
   have hel : ((tLs r).flatten).head? ≠ some ELSE := by
    cases r with
    | nil => simp [tLs]
    | cons y r2 =>
      obtain ⟨s2, q2, he2, hod2⟩ := stmt_head y (hg y (by simp))
      simp only [tLs, List.flatten_cons, he2, List.cons_append]
      exact hne (hod2 _ (.inl rfl))
   have e1 := (stmt_rt hw (F := F) t).S (hg t (by simp)) i _ F hX hel (by omega) (by omega)
   obtain ⟨j, e2⟩ := ih (fun x hx => hg x (by simp [hx])) (acc ++ [t]) (i + (tL t).length) g1 (X_app hX) (by simp at hgf; omega)
   refine ⟨j, ?_⟩
   simp only [mAll]
   rw [if_pos hil, e1]
   simp only [Res.then_]
   rw [e2, List.append_assoc]
   rfl
theorem prog_rt {ws : List W3} (hw : WsOk ws) {F : Nat} (hF : 5 * ws.length + 3 ≤ F) (dd ss : List T) (hd : ∀ t ∈ dd, GoodD t) (hs : ∀ t ∈ ss, GoodS t) (hsl : ss.length + 1 ≤ F) : ∀ (ds : List T) (i f : Nat), X ws i = (tLs dd).flatten ++ (tLs ss).flatten → dd.length + 1 ≤ f →
    ∃ j, mProg ws F f ds i = .ok (.node 40 nil_ 0 (ds ++ dd ++ [.node 30 nil_ 0 ss])) j := by
 induction dd with
 | nil =>
   intro ds i f hX hf
   obtain ⟨f1, rfl⟩ : ∃ f1, f = f1 + 1 := ⟨f - 1, by omega⟩
   have hX' : X ws i = (tLs ss).flatten := by rw [hX]; simp [tLs]
   have no : ∀ o, Odd o → isW ws i o = false := fun o ho => by
    refine X_not hX' ?_
    cases ss with
    | nil => simp [tLs]
    | cons y r2 =>
      obtain ⟨s2, q2, he2, hod2⟩ := stmt_head y (hs y (by simp))
      simp only [tLs, List.flatten_cons, he2, List.cons_append]
      exact hne (hod2 _ ho)
   obtain ⟨j, e⟩ := all_rt hw hF ds ss hs [] i F hX' hsl
   refine ⟨j, ?_⟩
   simp only [mProg]
   rw [if_neg (by rw [no _ (.inr (.inr (.inl rfl))), no _ (.inr (.inr (.inr rfl)))]; decide), e, List.append_nil, List.nil_append]
 | cons t r ih =>
   intro ds i f hX hf
   have hfl : (tLs (t :: r)).flatten = tL t ++ (tLs r).flatten := by simp only [tLs, List.flatten_cons]
   rw [hfl, List.append_assoc] at hX
   obtain ⟨f1, rfl⟩ : ∃ f1, f = f1 + 1 := ⟨f - 1, by omega⟩
   obtain ⟨e1, e2, _⟩ := decl_rt hw t (hd t (by simp)) hX
   obtain ⟨j, e3⟩ := ih (fun x hx => hd x (by simp [hx])) (ds ++ [t]) (i + (tL t).length) f1 (X_app hX) (by simp at hf; omega)
   refine ⟨j, ?_⟩
   simp only [mProg]
   rw [if_pos e2, e1]
   simp only [Res.then_]
   rw [e3]
   simp
end Go.Proofs.YtjmjmdmnejnlbaaGreatDoor
namespace Go.Proofs.YtjmjmdmnejnlbaaGreatDoor
open Go.RowKit
open Pl
def setS (e : T) : ByteArray := ⟨#[105, 32, 61, 32]⟩ ++ exS e ++ ⟨#[59]⟩
def checS (e : T) : ByteArray := ⟨#[99, 104, 101, 99, 107, 32]⟩ ++ exS e ++ ⟨#[59]⟩
def setN (e : T) : T := .node 21 ⟨#[105]⟩ 0 [e]
def checN (e : T) : T := .node 27 nil_ 0 [e]
def progN (t : T) : T := .node 40 nil_ 0 [.node 30 nil_ 0 [t]]
theorem setN_good {e : T} (h : Good1 e) : GoodS (setN e) := by
 refine ⟨?_, by show (21 : Int) ≤ 21 ∧ (21 : Int) ≤ 29; omega⟩
 show (formHead 21 ⟨#[105]⟩ 1 && numOk 21 0 && formedL 21 1 0 [e]) = true
 rw [show formHead 21 ⟨#[105]⟩ 1 = true by decide +kernel, show numOk 21 0 = true by decide +kernel]
 simp only [formedL, Bool.and_true, Bool.true_and, Bool.and_eq_true]
 refine ⟨?_, h.1⟩
 rw [show kidI 21 1 0 (kindT e) = betw (kindT e) 1 8 from rfl]
 unfold betw; exact decide_eq_true h.2
theorem checN_good {e : T} (h : GoodC e) : GoodS (checN e) := by
 refine ⟨?_, by show (21 : Int) ≤ 27 ∧ (27 : Int) ≤ 29; omega⟩
 show (formHead 27 nil_ 1 && numOk 27 0 && formedL 27 1 0 [e]) = true
 rw [show formHead 27 nil_ 1 = true by decide +kernel, show numOk 27 0 = true by decide +kernel]
 simp only [formedL, Bool.and_true, Bool.true_and, Bool.and_eq_true]
 refine ⟨?_, h.1⟩
 rw [show kidI 27 1 0 (kindT e) = betw (kindT e) 11 16 from rfl]
 unfold betw; exact decide_eq_true h.2
theorem set_chunk3 {e : T} (h : Good1 e) : Chunk3 (setS e).data.toList (tL (setN e)) Gap := by
 obtain ⟨c1, c2⟩ := expr_chunk3 e h.good
 rw [show tL (setN e) = [⟨#[105]⟩] ++ ([] ++ [⟨#[61]⟩] ++ [] ++ (tE e ++ [⟨#[59]⟩])) by unfold setN; rw [tL_eq, tEs1]; rfl]
 unfold setS
 rw [toL_app, toL_app]
 have a1 : Chunk3 (⟨#[105]⟩ : ByteArray).data.toList [⟨#[105]⟩] Gap := Chunk3.any (by decide +kernel)
 have a2 : Chunk3 ([32] ++ (⟨#[61]⟩ : ByteArray).data.toList ++ [32]) ([] ++ [⟨#[61]⟩] ++ []) (fun suf => NoEq ([32] ++ suf)) := by
  have x1 : Chunk3 [32] [] (fun _ => True) := Chunk3.blank (.inl rfl) _
  have x2 : Chunk3 (⟨#[61]⟩ : ByteArray).data.toList [⟨#[61]⟩] NoEq := Chunk3.sign (sg rfl)
  have x3 : Chunk3 [32] [] (fun suf => NoEq ([32] ++ suf)) := Chunk3.blank (.inl rfl) _
  exact (x1.app x2 (fun _ _ => trivial)).app x3 (fun _ h => h)
 have a3 := c1.app ((Chunk3.sign (s := ⟨#[59]⟩) (sg rfl)).weak fun _ (g : Gap _) => g.noEq) (fun suf _ => gap_sign suf (by decide))
 have a4 := a2.app a3 (fun suf _ => .inr ⟨32, _, rfl, by decide⟩)
 have a5 := a1.app a4 (fun suf _ => gap_sign (c := 32) _ (by decide))
 simp only [List.append_assoc] at a5 ⊢
 exact a5
theorem chec_chunk3 {e : T} (h : GoodC e) : Chunk3 (checS e).data.toList (tL (checN e)) Gap := by
 obtain ⟨c1, c2⟩ := expr_chunk3 e h.good
 rw [show tL (checN e) = [⟨#[99, 104, 101, 99, 107]⟩] ++ ([] ++ (tE e ++ [⟨#[59]⟩])) by unfold checN; rw [tL_eq, tEs1]; rfl]
 unfold checS
 rw [toL_app, toL_app]
 have a1 : Chunk3 (⟨#[99, 104, 101, 99, 107]⟩ : ByteArray).data.toList [⟨#[99, 104, 101, 99, 107]⟩] Gap := Chunk3.any (by decide +kernel)
 have a2 : Chunk3 [32] [] (fun _ => True) := Chunk3.blank (.inl rfl) _
 have a3 := c1.app ((Chunk3.sign (s := ⟨#[59]⟩) (sg rfl)).weak fun _ (g : Gap _) => g.noEq) (fun suf _ => gap_sign suf (by decide))
 have a4 := a2.app a3 (fun _ _ => trivial)
 have a5 := a1.app a4 (fun suf _ => gap_sign (c := 32) _ (by decide))
 simp only [List.append_assoc] at a5 ⊢
 exact a5
theorem back_of {s : ByteArray} {t : T} (hg : GoodS t) (hc : Chunk3 s.data.toList (tL t) Gap) : ((parseI s).2.1 = 1 ∨ (parseI s).2.1 = 3 ∨ (parseI s).2.1 = 5) ∨ ((parseI s).2.1 = 0 ∧ (parseI s).1 = progN t) := by
 have h := chunk3_words hc
 rw [Lib.mk_data] at h
 unfold parseI
 rcases h with h | h | ⟨h, k1, k2⟩
 ·rw [if_pos (by rw [h]; decide)]; exact .inl (.inl h)
 ·rw [if_pos (by rw [h]; decide)]; exact .inl (.inr (.inl h))
 ·rw [if_neg (by rw [h]; decide)]
  generalize (wordsI s).1 = ws at k1 k2
  have hX : X ws 0 = (tLs []).flatten ++ (tLs [t]).flatten := by
   unfold X
   rw [List.drop_zero, k1]
   simp only [tLs, List.flatten_nil, List.flatten_cons, List.append_nil, List.nil_append]
  obtain ⟨j, e⟩ := prog_rt (ws := ws) (F := fuelI ws) k2 (by unfold fuelI; omega) [] [t] (fun _ h => by cases h) (fun x hx => by rw [List.mem_singleton.1 hx]; exact hg) (by unfold fuelI; simp) [] 0 (fuelI ws) hX (by unfold fuelI; simp)
  rw [e]
  simp only [List.nil_append, List.append_nil]
  split
  ·exact .inr ⟨rfl, rfl⟩
  ·exact .inl (.inr (.inr rfl))
theorem back_set {e : T} (h : Good1 e) : ((parseI (setS e)).2.1 = 1 ∨ (parseI (setS e)).2.1 = 3 ∨ (parseI (setS e)).2.1 = 5) ∨ ((parseI (setS e)).2.1 = 0 ∧ (parseI (setS e)).1 = progN (setN e)) := back_of (setN_good h) (set_chunk3 h)
theorem back_chec {e : T} (h : GoodC e) : ((parseI (checS e)).2.1 = 1 ∨ (parseI (checS e)).2.1 = 3 ∨ (parseI (checS e)).2.1 = 5) ∨ ((parseI (checS e)).2.1 = 0 ∧ (parseI (checS e)).1 = progN (checN e)) := back_of (checN_good h) (chec_chunk3 h)
end Go.Proofs.YtjmjmdmnejnlbaaGreatDoor
