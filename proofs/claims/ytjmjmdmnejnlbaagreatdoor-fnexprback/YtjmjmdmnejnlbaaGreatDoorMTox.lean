/-
  PLAIN FACTS: a text of words and blanks is read as those words, or it has too many.
  THE WORDS OF AN EXPRESSION; its text is read as them.
  PLAIN FACTS: the text of an expression is read as its words, or it has too many.
-/
import Derived.Test.YtjmjmdmnejnlbaaGreatDoorMChn
import Derived.Test.YtjmjmdmnejnlbaaGreatDoorMSex
import Derived.Test.YtjmjmdmnejnlbaaGreatDoorMSRt
namespace Go.Proofs.YtjmjmdmnejnlbaaGreatDoor
open Go.RowKit
open Pl

/-- From place p on the words toks are read, and then it goes on from q. -/
def Reads3 (T : ByteArray) (p q : Nat) (toks : List ByteArray) : Prop := ∀ acc : List W3, ∃ W : List W3, W.map W3.s = toks ∧ (∀ x ∈ W, kindI x.s = x.k ∧ x.k ≠ 0) ∧ ((scanI T (skipI T p) acc).2.1 = 3 ∨ scanI T (skipI T p) acc = scanI T (skipI T q) (acc ++ W))
theorem Reads3.nil (T : ByteArray) (p : Nat) : Reads3 T p p [] := fun acc => ⟨[], rfl, fun x hx => (by cases hx), .inr (by rw [List.append_nil])⟩
theorem Reads3.trans {T : ByteArray} {p q r : Nat} {a b : List ByteArray} (h1 : Reads3 T p q a) (h2 : Reads3 T q r b) : Reads3 T p r (a ++ b) := fun acc => by
 obtain ⟨W1, e1, k1, g1⟩ := h1 acc
 obtain ⟨W2, e2, k2, g2⟩ := h2 (acc ++ W1)
 refine ⟨W1 ++ W2, by rw [List.map_append, e1, e2], fun x hx => ?_, ?_⟩
 ·rcases List.mem_append.1 hx with hx | hx
  ·exact k1 x hx
  ·exact k2 x hx
 ·rcases g1 with g1 | g1
  ·exact .inl g1
  ·rw [g1]
   rcases g2 with g2 | g2
   ·exact .inl g2
   ·exact .inr (by rw [g2, List.append_assoc])
/-- A stretch of text that is read as the words toks, whatever text it lies in, where F holds of what stands behind. -/
def Chunk3 (l : List UInt8) (toks : List ByteArray) (F : List UInt8 → Prop) : Prop := ∀ (T : ByteArray) (pre suf : List UInt8), T.data.toList = pre ++ (l ++ suf) → F suf → Reads3 T pre.length (pre.length + l.length) toks
theorem Chunk3.app {l1 l2 : List UInt8} {t1 t2 : List ByteArray} {F1 F2 : List UInt8 → Prop} (h1 : Chunk3 l1 t1 F1) (h2 : Chunk3 l2 t2 F2) (hF : ∀ suf, F2 suf → F1 (l2 ++ suf)) : Chunk3 (l1 ++ l2) (t1 ++ t2) F2 := fun T pre suf hT hs => by
 have a := h1 T pre (l2 ++ suf) (by rw [hT, List.append_assoc]) (hF suf hs)
 have b := h2 T (pre ++ l1) suf (by rw [hT]; simp) hs
 rw [List.length_append] at b
 have := a.trans b
 rwa [List.length_append, ← Nat.add_assoc]
theorem Chunk3.weak {l : List UInt8} {t : List ByteArray} {F G : List UInt8 → Prop} (h : Chunk3 l t F) (hG : ∀ s, G s → F s) : Chunk3 l t G := fun T pre suf hT hs => h T pre suf hT (hG suf hs)
theorem Chunk3.nil (F : List UInt8 → Prop) : Chunk3 [] [] F := fun T pre _ _ _ => by
 rw [List.length_nil, Nat.add_zero]; exact Reads3.nil T _
theorem Chunk3.word {s : ByteArray} (hk : kindI s ≠ 0) : Chunk3 s.data.toList [s] (fun suf => (alW s → Sep suf) ∧ (signB s = true → s.size = 2 ∨ NoEq suf)) := fun T pre suf hT hs acc => by
 obtain ⟨p1, p2, p3, p4⟩ := end_of hT hk hs.1 hs.2
 refine ⟨[⟨kindI s, s, pre.length⟩], rfl, fun x hx => ?_, ?_⟩
 ·rw [List.mem_singleton] at hx; subst hx; exact ⟨rfl, hk⟩
 ·rw [p4]
  by_cases hm : acc.length = 1500
  ·exact .inl (by rw [scan_many p1 (by rw [p3]; exact hk) hm])
  ·exact .inr (by rw [scan_go p1 (by rw [p3]; exact hk) hm, p3, p2, ← Lib.size_eq])
theorem Chunk3.blank {c : UInt8} (hc : c.toNat = 32 ∨ c.toNat = 10) (F : List UInt8 → Prop) : Chunk3 [c] [] F := fun T pre suf hT _ acc => by
 refine ⟨[], rfl, fun x hx => (by cases hx), .inr ?_⟩
 have hl : T.size = pre.length + (1 + suf.length) := by rw [Lib.size_eq, hT]; simp; omega
 have hb : byt T pre.length = (c.toNat : Int) := by
  rw [byt_list, hT, List.getD_eq_getElem?_getD, List.getElem?_append_right (Nat.le_refl _), Nat.sub_self]; rfl
 rw [skip_blank (by omega) (by unfold blankB; rw [hb]; rcases hc with e | e <;> rw [e] <;> rfl), List.append_nil]; rfl
theorem Chunk3.any {s : ByteArray} (hk : kindI s ≠ 0) : Chunk3 s.data.toList [s] Gap := (Chunk3.word hk).weak fun _ h => ⟨fun _ => h.sep, fun _ => .inr h.noEq⟩
theorem Chunk3.sign {s : ByteArray} (hk : signB s = true) : Chunk3 s.data.toList [s] NoEq := by
 have h0 : kindI s ≠ 0 := by
  have h1 := sign_not_key hk
  unfold kindI
  rw [h1]
  simp only [Bool.false_eq_true, if_false, hk, if_true]
  split
  ·decide
  ·split <;> decide
 refine (Chunk3.word h0).weak fun _ h => ⟨fun ha => ?_, fun _ => .inr h⟩
 have := sign_facts hk
 have h2 := ha 0 (by have := this.1; omega)
 rw [this.2.1] at h2; cases h2
/-- A text that is such a stretch, not too long: it has too many words, or these. -/
theorem chunk3_words {l : List UInt8} {toks : List ByteArray} (h : Chunk3 l toks Gap) : (wordsI ⟨l.toArray⟩).2.1 = 1 ∨ (wordsI ⟨l.toArray⟩).2.1 = 3 ∨ ((wordsI ⟨l.toArray⟩).2.1 = 0 ∧ (wordsI ⟨l.toArray⟩).1.map W3.s = toks ∧ ∀ x ∈ (wordsI ⟨l.toArray⟩).1, kindI x.s = x.k ∧ x.k ≠ 0) := by
 have hz : (ByteArray.mk l.toArray).size = l.length := by simp [ByteArray.size]
 unfold wordsI
 split
 ·exact .inl rfl
 ·obtain ⟨W, e, k, g⟩ := h ⟨l.toArray⟩ [] [] (by simp) (.inl rfl) []
  simp only [List.length_nil, Nat.zero_add, List.nil_append] at g
  rcases g with g | g
  ·exact .inr (.inl g)
  ·rw [g, skip_end (by omega), scan_end (by omega)]
   exact .inr (.inr ⟨rfl, e, k⟩)
end Go.Proofs.YtjmjmdmnejnlbaaGreatDoor
namespace Go.Proofs.YtjmjmdmnejnlbaaGreatDoor
open Go.RowKit
open Pl

theorem sg {s : ByteArray} (h : signs.contains s.data.toList = true) : signB s = true := by unfold signB; rw [Lib.toList_data]; exact h
theorem ky {s : ByteArray} (h : keys.contains s.data.toList = true) : keyB s = true := by unfold keyB; rw [Lib.toList_data]; exact h
theorem toL_app (a b : ByteArray) : (a ++ b).data.toList = a.data.toList ++ b.data.toList := by simp
theorem byt_app (a b : ByteArray) {k : Nat} (h : k < a.size) : byt (a ++ b) k = byt a k := by
 rw [byt_list, byt_list, toL_app, List.getD_eq_getElem?_getD, List.getD_eq_getElem?_getD, List.getElem?_append_left (by rw [← Lib.size_eq]; exact h)]
theorem byt_last (a : ByteArray) (c : UInt8) : byt (a ++ ⟨#[c]⟩) a.size = (c.toNat : Int) := by
 rw [byt_list, toL_app, List.getD_eq_getElem?_getD, List.getElem?_append_right (by rw [← Lib.size_eq]; exact Nat.le_refl _), ← Lib.size_eq, Nat.sub_self]; rfl
theorem val_app (a b : ByteArray) (k : Nat) (h : k ≤ a.size) : val (a ++ b) k = val a k := by
 induction k with
 | zero => rfl
 | succ k ih => simp only [val]; rw [ih (by omega), byt_app _ _ (by omega)]
theorem u8_of {n : Nat} (h : n < 256) : ((UInt8.ofNat n).toNat : Int) = n := by rw [UInt8.toNat_ofNat']; omega
theorem dec_facts (n : Nat) : 1 ≤ (dec n).size ∧ (∀ k, k < (dec n).size → digI (byt (dec n) k) = true) ∧ (1 ≤ n → byt (dec n) 0 ≠ 48) ∧ val (dec n) (dec n).size = n ∧ (n < 10 → (dec n).size = 1) := by
 induction n using Nat.strongRecOn with
 | ind n ih =>
   by_cases h : n < 10
   ·rw [dec_small h]
    have hb : byt ⟨#[UInt8.ofNat (48 + n)]⟩ 0 = ((48 + n : Nat) : Int) := by rw [← u8_of (n := 48 + n) (by omega)]; rfl
    refine ⟨Nat.le_refl _, fun k hk => ?_, fun h1 => ?_, ?_, fun _ => rfl⟩
    ·have : k = 0 := by change k < 1 at hk; omega
     subst this
     rw [hb, dig_iff]; omega
    ·rw [hb]; omega
    ·show val _ 1 = _
     simp only [val]
     rw [hb]; omega
   ·rw [dec_more h]
    obtain ⟨h1, h2, h3, h4, _⟩ := ih (n / 10) (by omega)
    have hz : (dec (n / 10) ++ ⟨#[UInt8.ofNat (48 + n % 10)]⟩).size = (dec (n / 10)).size + 1 := by rw [ByteArray.size_append]; rfl
    have hb := byt_last (dec (n / 10)) (UInt8.ofNat (48 + n % 10))
    rw [u8_of (n := 48 + n % 10) (by omega)] at hb
    rw [hz]
    refine ⟨by omega, fun k hk => ?_, fun _ => ?_, ?_, fun q => absurd q h⟩
    ·rcases Nat.lt_or_ge k (dec (n / 10)).size with q | q
     ·rw [byt_app _ _ q]; exact h2 k q
     ·have : k = (dec (n / 10)).size := by omega
      subst this
      rw [hb, dig_iff]; omega
    ·rw [byt_app _ _ (by omega)]; exact h3 (by omega)
    ·simp only [val]
     rw [val_app _ _ _ (Nat.le_refl _), h4, hb]; omega
theorem dec_num {n : Nat} (h : n ≤ 1000000) : numB (dec n) = true ∧ numV (dec n) = n := by
 obtain ⟨h1, h2, h3, h4, h5⟩ := dec_facts n
 have hp : numP (dec n) := ⟨h1, h2, fun hs => h3 (by rcases Nat.lt_or_ge n 10 with q | q
                                                     ·have := h5 q; omega
                                                     ·omega), by rw [h4]; omega⟩
 have hb : numB (dec n) = true := by simpa [numB] using hp
 exact ⟨hb, by rw [(numV_yes hb).1, h4]⟩
theorem num_kind {s : ByteArray} (h : numB s = true) : kindI s = 2 := by
 have hk := num_not_key h
 have hp : numP s := by simpa [numB] using h
 have hn : nameB s = false := by
  rcases hq : nameB s with _ | _
  ·rfl
  ·have hp2 : nameP s := by simpa [nameB] using hq
   have hd := hp.2.1 0 (by have := hp.1; omega)
   rcases hp2.2.2.2 0 (by have := hp.1; omega) with e | e
   ·rw [dig_iff] at hd; rw [low_iff] at e; omega
   ·exact absurd rfl e.1
 unfold kindI
 rw [hk, hn, h]; rfl
theorem name_kind {s : ByteArray} (h : nameB s = true) : kindI s = 1 := by
 unfold kindI
 rw [name_not_key h, h]; rfl

/-- A stretch that does not open with the sign for equal. -/
def Hd (l : List UInt8) : Prop := ∃ c r, l = c :: r ∧ c.toNat ≠ 61
theorem Hd.app {l : List UInt8} (h : Hd l) (m : List UInt8) : Hd (l ++ m) := by
 obtain ⟨c, r, rfl, hc⟩ := h
 exact ⟨c, r ++ m, rfl, hc⟩
theorem Hd.noEq {l : List UInt8} (h : Hd l) (suf : List UInt8) : NoEq (l ++ suf) := by
 obtain ⟨c, r, rfl, hc⟩ := h
 exact .inr ⟨c, r ++ suf, rfl, hc⟩
theorem hd_of {s : ByteArray} (h : 1 ≤ s.size) (h0 : byt s 0 ≠ 61) : Hd s.data.toList := by
 rw [byt_list] at h0
 rw [Lib.size_eq] at h
 generalize s.data.toList = l at h h0
 cases l with
 | nil => simp at h
 | cons c r => exact ⟨c, r, rfl, fun e => h0 (by simp [e])⟩
theorem hd_num {s : ByteArray} (h : numB s = true) : Hd s.data.toList := by
 have hp : numP s := by simpa [numB] using h
 have hd := hp.2.1 0 (by have := hp.1; omega)
 rw [dig_iff] at hd
 exact hd_of hp.1 (by omega)
theorem hd_name {s : ByteArray} (h : nameB s = true) : Hd s.data.toList := by
 have hp : nameP s := by simpa [nameB] using h
 rcases hp.2.2.2 0 (by have := hp.1; omega) with e | e
 ·rw [low_iff] at e; exact hd_of hp.1 (by omega)
 ·exact absurd rfl e.1

def parT (k : Int) (t : List ByteArray) (least : Int) : List ByteArray := if tightI k < least then [⟨#[40]⟩] ++ t ++ [⟨#[41]⟩] else t
def layT (k : Int) (s : ByteArray) (m : Int) (ka : Int) (a : List ByteArray) (kb : Int) (b : List ByteArray) : List ByteArray :=
 if k = 1 then [dec m.toNat] else
 if k = 2 then [s] else
 if k = 3 then [s] ++ [⟨#[91]⟩] ++ a ++ [⟨#[93]⟩] else
 if k = 4 then [⟨#[108, 101, 110]⟩] ++ [⟨#[40]⟩] ++ [s] ++ [⟨#[41]⟩] else
 if k = 5 then [⟨#[45]⟩] ++ parT ka a 3 else
 if k = 6 then parT ka a 1 ++ [⟨#[43]⟩] ++ parT kb b 2 else
 if k = 7 then parT ka a 1 ++ [⟨#[45]⟩] ++ parT kb b 2 else
 if k = 8 then parT ka a 2 ++ [⟨#[42]⟩] ++ parT kb b 3 else
 a ++ [signI k] ++ b
def none3 : Int × List ByteArray := (0, [])
mutual
def tE : T → List ByteArray
 | .node k s m kk => layT k s m ((tEs kk)[0]?.getD none3).1 ((tEs kk)[0]?.getD none3).2 ((tEs kk)[1]?.getD none3).1 ((tEs kk)[1]?.getD none3).2
def tEs : List T → List (Int × List ByteArray)
 | [] => []
 | t :: r => (kindT t, tE t) :: tEs r
end
theorem tE0 (k m : Int) (s : ByteArray) : tE (.node k s m []) = layT k s m 0 [] 0 [] := by simp [tE, tEs, none3]
theorem tE1 (k m : Int) (s : ByteArray) (x : T) : tE (.node k s m [x]) = layT k s m (kindT x) (tE x) 0 [] := by simp [tE, tEs, none3]
theorem tE2 (k m : Int) (s : ByteArray) (x y : T) : tE (.node k s m [x, y]) = layT k s m (kindT x) (tE x) (kindT y) (tE y) := by simp [tE, tEs]

theorem gap_sign {c : UInt8} (r : List UInt8) (h : ((lowI c.toNat || digI c.toNat) = false ∧ c.toNat ≠ 61)) : Gap ([c] ++ r) := Gap.at r h
theorem shape_name {k m : Int} {s : ByteArray} {kk : List T} (h : formedT (.node k s m kk) = true) (hs : (shapeI k).2.1 = true) : nameB s = true := by
 obtain ⟨hh, _, _⟩ := formed_parts h
 unfold formHead at hh
 generalize shapeI k = sh at hh hs
 obtain ⟨ks, nm, sm⟩ := sh
 simp only at hs
 subst hs
 simp at hh
 simpa using hh.1.2
theorem sign_is {k : Int} (h : 11 ≤ k ∧ k ≤ 16) : signB (signI k) = true ∧ relI (signI k) = k := by
 have hk' : k = 11 ∨ k = 12 ∨ k = 13 ∨ k = 14 ∨ k = 15 ∨ k = 16 := by omega
 rcases hk' with rfl | rfl | rfl | rfl | rfl | rfl <;> exact ⟨sg rfl, by decide⟩
end Go.Proofs.YtjmjmdmnejnlbaaGreatDoor
namespace Go.Proofs.YtjmjmdmnejnlbaaGreatDoor
open Go.RowKit
open Pl

theorem sp33 {c : UInt8} (hs : signB ⟨#[c]⟩ = true) (F : List UInt8 → Prop) : Chunk3 [32, c, 32] [⟨#[c]⟩] F := by
 have a : Chunk3 [32] [] NoEq := Chunk3.blank (.inl rfl) _
 have b : Chunk3 [c] [⟨#[c]⟩] NoEq := Chunk3.sign hs
 have d : Chunk3 [32] [] F := Chunk3.blank (.inl rfl) _
 exact (((Chunk3.blank (c := 32) (.inl rfl) (fun _ => True)).app b (fun _ _ => trivial)).app d (fun suf _ => .inr ⟨32, suf, rfl, by decide⟩))
theorem par_chunk3 {k : Int} {s : ByteArray} {t : List ByteArray} (least : Int) (h : Chunk3 s.data.toList t Gap) (hh : Hd s.data.toList) : Chunk3 (par k s least).data.toList (parT k t least) Gap ∧ Hd (par k s least).data.toList := by
 unfold par parT
 split
 ·rw [toL_app, toL_app]
  refine ⟨((Chunk3.sign (s := ⟨#[40]⟩) (sg rfl)).app h (fun suf _ => hh.noEq suf)).app ((Chunk3.sign (s := ⟨#[41]⟩) (sg rfl)).weak fun _ g => g.noEq) (fun suf _ => gap_sign suf (by decide)), ⟨40, _, rfl, by decide⟩⟩
 ·exact ⟨h, hh⟩
theorem expr_chunk3 (e : T) : Good e → Chunk3 (exS e).data.toList (tE e) Gap ∧ Hd (exS e).data.toList := by
 refine T.induct (P := fun e => Good e → Chunk3 (exS e).data.toList (tE e) Gap ∧ Hd (exS e).data.toList) ?_ e
 intro k s m kk ih hg
 obtain ⟨_, hsh⟩ := good_shape hg
 cases hsh with
 | num h hk h0 h1 =>
   subst h hk
   rw [exS0, tE0]
   simp only [lay, layT, if_true]
   obtain ⟨d1, _⟩ := dec_num (n := m.toNat) (by omega)
   exact ⟨Chunk3.any (by rw [num_kind d1]; decide), hd_num d1⟩
 | var h hk =>
   subst h hk
   have hn := shape_name hg.1 rfl
   rw [exS0, tE0]
   show Chunk3 s.data.toList [s] Gap ∧ Hd s.data.toList
   exact ⟨Chunk3.any (by rw [name_kind hn]; decide), hd_name hn⟩
 | len h hk =>
   subst h hk
   have hn := shape_name hg.1 rfl
   rw [exS0, tE0]
   show Chunk3 (ByteArray.data (⟨#[108, 101, 110, 40]⟩ ++ s ++ ⟨#[41]⟩)).toList ([⟨#[108, 101, 110]⟩] ++ [⟨#[40]⟩] ++ [s] ++ [⟨#[41]⟩]) Gap ∧ Hd (ByteArray.data (⟨#[108, 101, 110, 40]⟩ ++ s ++ ⟨#[41]⟩)).toList
   rw [toL_app, toL_app]
   refine ⟨(((Chunk3.any (s := ⟨#[108, 101, 110]⟩) (by rw [key_not_name (ky rfl)]; decide)).app (Chunk3.sign (s := ⟨#[40]⟩) (sg rfl)) (fun suf _ => gap_sign suf (by decide))).app (Chunk3.any (by rw [name_kind hn]; decide)) (fun suf _ => (hd_name hn).noEq suf)).app ((Chunk3.sign (s := ⟨#[41]⟩) (sg rfl)).weak fun _ g => g.noEq) (fun suf _ => gap_sign suf (by decide)), ⟨108, _, rfl, by decide⟩⟩
 | cell h x hk hx =>
   subst h hk
   have hn := shape_name hg.1 rfl
   obtain ⟨c1, c2⟩ := ih x (by simp) hx.good
   rw [exS1, tE1]
   show Chunk3 (ByteArray.data (s ++ ⟨#[91]⟩ ++ exS x ++ ⟨#[93]⟩)).toList ([s] ++ [⟨#[91]⟩] ++ tE x ++ [⟨#[93]⟩]) Gap ∧ Hd (ByteArray.data (s ++ ⟨#[91]⟩ ++ exS x ++ ⟨#[93]⟩)).toList
   rw [toL_app, toL_app, toL_app]
   exact ⟨(((Chunk3.any (by rw [name_kind hn]; decide)).app (Chunk3.sign (s := ⟨#[91]⟩) (sg rfl)) (fun suf _ => gap_sign suf (by decide))).app c1 (fun suf _ => c2.noEq suf)).app ((Chunk3.sign (s := ⟨#[93]⟩) (sg rfl)).weak fun _ g => g.noEq) (fun suf _ => gap_sign suf (by decide)), (((hd_name hn).app _).app _).app _⟩
 | neg h x hk hx =>
   subst h hk
   obtain ⟨c1, c2⟩ := ih x (by simp) hx.good
   obtain ⟨d1, d2⟩ := par_chunk3 (k := kindT x) 3 c1 c2
   rw [exS1, tE1]
   show Chunk3 (ByteArray.data (⟨#[45]⟩ ++ par (kindT x) (exS x) 3)).toList ([⟨#[45]⟩] ++ parT (kindT x) (tE x) 3) Gap ∧ Hd (ByteArray.data (⟨#[45]⟩ ++ par (kindT x) (exS x) 3)).toList
   rw [toL_app]
   exact ⟨(Chunk3.sign (s := ⟨#[45]⟩) (sg rfl)).app d1 (fun suf _ => d2.noEq suf), ⟨45, _, rfl, by decide⟩⟩
 | pair h x y hk hx hy =>
   subst hk
   obtain ⟨c1, c2⟩ := ih x (by simp) hx.good
   obtain ⟨e1, e2⟩ := ih y (by simp) hy.good
   rw [exS2, tE2]
   have go : ∀ (la lb : Int) (c : UInt8), signB ⟨#[c]⟩ = true → Chunk3 (ByteArray.data (par (kindT x) (exS x) la ++ ⟨#[32, c, 32]⟩ ++ par (kindT y) (exS y) lb)).toList (parT (kindT x) (tE x) la ++ [⟨#[c]⟩] ++ parT (kindT y) (tE y) lb) Gap ∧ Hd (ByteArray.data (par (kindT x) (exS x) la ++ ⟨#[32, c, 32]⟩ ++ par (kindT y) (exS y) lb)).toList := by
    intro la lb c hc
    obtain ⟨d1, d2⟩ := par_chunk3 (k := kindT x) la c1 c2
    obtain ⟨g1, g2⟩ := par_chunk3 (k := kindT y) lb e1 e2
    rw [toL_app, toL_app]
    exact ⟨(d1.app (sp33 hc (fun _ => True)) (fun suf _ => .inr ⟨32, _, rfl, by decide⟩)).app g1 (fun _ _ => trivial), (d2.app _).app _⟩
   rcases h with rfl | rfl | rfl
   ·exact go 1 2 43 (sg rfl)
   ·exact go 1 2 45 (sg rfl)
   ·exact go 2 3 42 (sg rfl)
 | cond h x y hk hx hy =>
   subst hk
   obtain ⟨c1, c2⟩ := ih x (by simp) hx.good
   obtain ⟨e1, e2⟩ := ih y (by simp) hy.good
   obtain ⟨s1, _⟩ := sign_is h
   rw [exS2, tE2]
   have l1 : lay k s m (kindT x) (exS x) (kindT y) (exS y) = exS x ++ ⟨#[32]⟩ ++ signI k ++ ⟨#[32]⟩ ++ exS y := by
    unfold lay
    rw [if_neg (by omega), if_neg (by omega), if_neg (by omega), if_neg (by omega), if_neg (by omega), if_neg (by omega), if_neg (by omega), if_neg (by omega)]
   have l2 : layT k s m (kindT x) (tE x) (kindT y) (tE y) = tE x ++ [signI k] ++ tE y := by
    unfold layT
    rw [if_neg (by omega), if_neg (by omega), if_neg (by omega), if_neg (by omega), if_neg (by omega), if_neg (by omega), if_neg (by omega), if_neg (by omega)]
   rw [l1, l2, toL_app, toL_app, toL_app, toL_app]
   have b1 : Chunk3 (exS x).data.toList (tE x ++ []) Gap := by rw [List.append_nil]; exact c1
   refine ⟨?_, (((c2.app _).app _).app _).app _⟩
   have q1 := c1.app (Chunk3.blank (c := 32) (.inl rfl) (fun _ => True)) (fun suf _ => .inr ⟨32, suf, rfl, by decide⟩)
   have q2 := q1.app (Chunk3.sign s1) (fun _ _ => trivial)
   have q3 := q2.app (Chunk3.blank (c := 32) (.inl rfl) (fun _ => True)) (fun suf _ => .inr ⟨32, suf, rfl, by decide⟩)
   have q4 := q3.app e1 (fun _ _ => trivial)
   simp only [List.append_nil] at q4
   exact q4
end Go.Proofs.YtjmjmdmnejnlbaaGreatDoor
