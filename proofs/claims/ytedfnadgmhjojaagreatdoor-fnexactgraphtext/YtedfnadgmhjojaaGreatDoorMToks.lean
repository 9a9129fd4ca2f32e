/-
  THE WORDS OF AN EXPRESSION; its text is read as them.
-/
import Derived.Test.YtedfnadgmhjojaaGreatDoorMSex
import Derived.Test.YtedfnadgmhjojaaGreatDoorMChn
import Derived.Test.YtedfnadgmhjojaaGreatDoorMSRl
namespace Go.Proofs.YtedfnadgmhjojaaGreatDoor
open Go.RowKit
open Pl

theorem sg {s : ByteArray} (h : signs.contains s.data.toList = true) : signB s = true := by unfold signB; rw [Lib.toList_data]; exact h
theorem ky {s : ByteArray} (h : keys.contains s.data.toList = true) : keyB s = true := by unfold keyB; rw [Lib.toList_data]; exact h
theorem toL_app (a b : ByteArray) : (a ++ b).data.toList = a.data.toList ++ b.data.toList := by simp
theorem byt_app (a b : ByteArray) {k : Nat} (h : k < a.size) : byt (a ++ b) k = byt a k := by
 rw [byt_list, byt_list, toL_app, List.getD_eq_getElem?_getD, List.getD_eq_getElem?_getD, List.getElem?_append_left (by rw [← Lib.size_eq]; exact h)]
theorem byt_last (a : ByteArray) (c : UInt8) : byt (a ++ ⟨#[c]⟩) a.size = (c.toNat : Int) := by
 rw [byt_list, toL_app, List.getD_eq_getElem?_getD, List.getElem?_append_right (by rw [← Lib.size_eq]; exact Nat.le_refl _), ← Lib.size_eq, Nat.sub_self]; rfl
theorem val_app (a b : ByteArray) (k : Nat) (h : k ≤ a.size) : val (a ++ b) k = val a k := by
 induction k with
 | zero => rfl
 | succ k ih => simp only [val]; rw [ih (by omega), byt_app _ _ (by omega)]
theorem u8_of {n : Nat} (h : n < 256) : ((UInt8.ofNat n).toNat : Int) = n := by rw [UInt8.toNat_ofNat']; omega
theorem dec_facts (n : Nat) : 1 ≤ (dec n).size ∧ (∀ k, k < (dec n).size → digI (byt (dec n) k) = true) ∧ (1 ≤ n → byt (dec n) 0 ≠ 48) ∧ val (dec n) (dec n).size = n ∧ (n < 10 → (dec n).size = 1) := by
 induction n using Nat.strongRecOn with
 | ind n ih =>
   by_cases h : n < 10
   ·rw [dec_small h]
    have hb : byt ⟨#[UInt8.ofNat (48 + n)]⟩ 0 = ((48 + n : Nat) : Int) := by rw [← u8_of (n := 48 + n) (by omega)]; rfl
    refine ⟨Nat.le_refl _, fun k hk => ?_, fun h1 => ?_, ?_, fun _ => rfl⟩
    ·have : k = 0 := by change k < 1 at hk; omega
     subst this
     rw [hb, dig_iff]; omega
    ·rw [hb]; omega
    ·show val _ 1 = _
     simp only [val]
     rw [hb]; omega
   ·rw [dec_more h]
    obtain ⟨h1, h2, h3, h4, _⟩ := ih (n / 10) (by omega)
    have hz : (dec (n / 10) ++ ⟨#[UInt8.ofNat (48 + n % 10)]⟩).size = (dec (n / 10)).size + 1 := by rw [ByteArray.size_append]; rfl
    have hb := byt_last (dec (n / 10)) (UInt8.ofNat (48 + n % 10))
    rw [u8_of (n := 48 + n % 10) (by omega)] at hb
    rw [hz]
    refine ⟨by omega, fun k hk => ?_, fun _ => ?_, ?_, fun q => absurd q h⟩
    ·rcases Nat.lt_or_ge k (dec (n / 10)).size with q | q
     ·rw [byt_app _ _ q]; exact h2 k q
     ·have : k = (dec (n / 10)).size := by omega
      subst this
      rw [hb, dig_iff]; omega
    ·rw [byt_app _ _ (by omega)]; exact h3 (by omega)
    ·simp only [val]
     rw [val_app _ _ _ (Nat.le_refl _), h4, hb]; omega
theorem dec_num {n : Nat} (h : n ≤ 1000000) : numB (dec n) = true ∧ numV (dec n) = n := by
 obtain ⟨h1, h2, h3, h4, h5⟩ := dec_facts n
 have hp : numP (dec n) := ⟨h1, h2, fun hs => h3 (by rcases Nat.lt_or_ge n 10 with q | q
                                                     ·have := h5 q; omega
                                                     ·omega), by rw [h4]; omega⟩
 have hb : numB (dec n) = true := by simpa [numB] using hp
 exact ⟨hb, by rw [(numV_yes hb).1, h4]⟩
theorem num_kind {s : ByteArray} (h : numB s = true) : kindI s = 2 := by
 have hk := num_not_key h
 have hp : numP s := by simpa [numB] using h
 have hn : nameB s = false := by
  rcases hq : nameB s with _ | _
  ·rfl
  ·have hp2 : nameP s := by simpa [nameB] using hq
   have hd := hp.2.1 0 (by have := hp.1; omega)
   rcases hp2.2.2.2 0 (by have := hp.1; omega) with e | e
   ·rw [dig_iff] at hd; rw [low_iff] at e; omega
   ·exact absurd rfl e.1
 unfold kindI
 rw [hk, hn, h]; rfl
theorem name_kind {s : ByteArray} (h : nameB s = true) : kindI s = 1 := by
 unfold kindI
 rw [name_not_key h, h]; rfl

/-- A stretch that does not open with the sign for equal. -/
def Hd (l : List UInt8) : Prop := ∃ c r, l = c :: r ∧ c.toNat ≠ 61
theorem Hd.app {l : List UInt8} (h : Hd l) (m : List UInt8) : Hd (l ++ m) := by
 obtain ⟨c, r, rfl, hc⟩ := h
 exact ⟨c, r ++ m, rfl, hc⟩
theorem Hd.noEq {l : List UInt8} (h : Hd l) (suf : List UInt8) : NoEq (l ++ suf) := by
 obtain ⟨c, r, rfl, hc⟩ := h
 exact .inr ⟨c, r ++ suf, rfl, hc⟩
theorem hd_of {s : ByteArray} (h : 1 ≤ s.size) (h0 : byt s 0 ≠ 61) : Hd s.data.toList := by
 rw [byt_list] at h0
 rw [Lib.size_eq] at h
 generalize s.data.toList = l at h h0
 cases l with
 | nil => simp at h
 | cons c r => exact ⟨c, r, rfl, fun e => h0 (by simp [e])⟩
theorem hd_num {s : ByteArray} (h : numB s = true) : Hd s.data.toList := by
 have hp : numP s := by simpa [numB] using h
 have hd := hp.2.1 0 (by have := hp.1; omega)
 rw [dig_iff] at hd
 exact hd_of hp.1 (by omega)
theorem hd_name {s : ByteArray} (h : nameB s = true) : Hd s.data.toList := by
 have hp : nameP s := by simpa [nameB] using h
 rcases hp.2.2.2 0 (by have := hp.1; omega) with e | e
 ·rw [low_iff] at e; exact hd_of hp.1 (by omega)
 ·exact absurd rfl e.1

def parT (k : Int) (t : List ByteArray) (least : Int) : List ByteArray := if tightI k < least then [⟨#[40]⟩] ++ t ++ [⟨#[41]⟩] else t
def layT (k : Int) (s : ByteArray) (m : Int) (ka : Int) (a : List ByteArray) (kb : Int) (b : List ByteArray) : List ByteArray :=
 if k = 1 then [dec m.toNat] else
 if k = 2 then [s] else
 if k = 3 then [s] ++ [⟨#[91]⟩] ++ a ++ [⟨#[93]⟩] else
 if k = 4 then [⟨#[108, 101, 110]⟩] ++ [⟨#[40]⟩] ++ [s] ++ [⟨#[41]⟩] else
 if k = 5 then [⟨#[45]⟩] ++ parT ka a 3 else
 if k = 6 then parT ka a 1 ++ [⟨#[43]⟩] ++ parT kb b 2 else
 if k = 7 then parT ka a 1 ++ [⟨#[45]⟩] ++ parT kb b 2 else
 if k = 8 then parT ka a 2 ++ [⟨#[42]⟩] ++ parT kb b 3 else
 a ++ [signI k] ++ b
def none3 : Int × List ByteArray := (0, [])
mutual
def tE : T → List ByteArray
 | .node k s m kk => layT k s m ((tEs kk)[0]?.getD none3).1 ((tEs kk)[0]?.getD none3).2 ((tEs kk)[1]?.getD none3).1 ((tEs kk)[1]?.getD none3).2
def tEs : List T → List (Int × List ByteArray)
 | [] => []
 | t :: r => (kindT t, tE t) :: tEs r
end
theorem tE0 (k m : Int) (s : ByteArray) : tE (.node k s m []) = layT k s m 0 [] 0 [] := by simp [tE, tEs, none3]
theorem tE1 (k m : Int) (s : ByteArray) (x : T) : tE (.node k s m [x]) = layT k s m (kindT x) (tE x) 0 [] := by simp [tE, tEs, none3]
theorem tE2 (k m : Int) (s : ByteArray) (x y : T) : tE (.node k s m [x, y]) = layT k s m (kindT x) (tE x) (kindT y) (tE y) := by simp [tE, tEs]

theorem gap_sign {c : UInt8} (r : List UInt8) (h : ((lowI c.toNat || digI c.toNat) = false ∧ c.toNat ≠ 61)) : Gap ([c] ++ r) := Gap.at r h
theorem sp3 {c : UInt8} (hs : signB ⟨#[c]⟩ = true) (F : List UInt8 → Prop) : Chunk [32, c, 32] [⟨#[c]⟩] F := by
 have a : Chunk [32] [] NoEq := Chunk.blank (.inl rfl) _
 have b : Chunk [c] [⟨#[c]⟩] NoEq := Chunk.sign hs
 have d : Chunk [32] [] F := Chunk.blank (.inl rfl) _
 exact (((Chunk.blank (c := 32) (.inl rfl) (fun _ => True)).app b (fun _ _ => trivial)).app d (fun suf _ => .inr ⟨32, suf, rfl, by decide⟩))
theorem par_chunk {k : Int} {s : ByteArray} {t : List ByteArray} (least : Int) (h : Chunk s.data.toList t Gap) (hh : Hd s.data.toList) : Chunk (par k s least).data.toList (parT k t least) Gap ∧ Hd (par k s least).data.toList := by
 unfold par parT
 split
 ·rw [toL_app, toL_app]
  refine ⟨((Chunk.sign (s := ⟨#[40]⟩) (sg rfl)).app h (fun suf _ => hh.noEq suf)).app ((Chunk.sign (s := ⟨#[41]⟩) (sg rfl)).weak fun _ g => g.noEq) (fun suf _ => gap_sign suf (by decide)), ⟨40, _, rfl, by decide⟩⟩
 ·exact ⟨h, hh⟩
theorem shape_name {k m : Int} {s : ByteArray} {kk : List T} (h : formedT (.node k s m kk) = true) (hs : (shapeI k).2.1 = true) : nameB s = true := by
 obtain ⟨hh, _, _⟩ := formed_parts h
 unfold formHead at hh
 generalize shapeI k = sh at hh hs
 obtain ⟨ks, nm, sm⟩ := sh
 simp only at hs
 subst hs
 simp at hh
 simpa using hh.1.2
theorem sign_is {k : Int} (h : 11 ≤ k ∧ k ≤ 16) : signB (signI k) = true ∧ relI (signI k) = k := by
 have hk' : k = 11 ∨ k = 12 ∨ k = 13 ∨ k = 14 ∨ k = 15 ∨ k = 16 := by omega
 rcases hk' with rfl | rfl | rfl | rfl | rfl | rfl <;> exact ⟨sg rfl, by decide⟩
/-- The text of an expression or condition is read as its words. -/
theorem expr_chunk (e : T) : Good e → Chunk (exS e).data.toList (tE e) Gap ∧ Hd (exS e).data.toList := by
 refine T.induct (P := fun e => Good e → Chunk (exS e).data.toList (tE e) Gap ∧ Hd (exS e).data.toList) ?_ e
 intro k s m kk ih hg
 obtain ⟨_, hsh⟩ := good_shape hg
 cases hsh with
 | num h hk h0 h1 =>
   subst h hk
   rw [exS0, tE0]
   simp only [lay, layT, if_true]
   obtain ⟨d1, _⟩ := dec_num (n := m.toNat) (by omega)
   exact ⟨Chunk.any (by rw [num_kind d1]; decide), hd_num d1⟩
 | var h hk =>
   subst h hk
   have hn := shape_name hg.1 rfl
   rw [exS0, tE0]
   show Chunk s.data.toList [s] Gap ∧ Hd s.data.toList
   exact ⟨Chunk.any (by rw [name_kind hn]; decide), hd_name hn⟩
 | len h hk =>
   subst h hk
   have hn := shape_name hg.1 rfl
   rw [exS0, tE0]
   show Chunk (ByteArray.data (⟨#[108, 101, 110, 40]⟩ ++ s ++ ⟨#[41]⟩)).toList ([⟨#[108, 101, 110]⟩] ++ [⟨#[40]⟩] ++ [s] ++ [⟨#[41]⟩]) Gap ∧ Hd (ByteArray.data (⟨#[108, 101, 110, 40]⟩ ++ s ++ ⟨#[41]⟩)).toList
   rw [toL_app, toL_app]
   refine ⟨(((Chunk.any (s := ⟨#[108, 101, 110]⟩) (by rw [key_not_name (ky rfl)]; decide)).app (Chunk.sign (s := ⟨#[40]⟩) (sg rfl)) (fun suf _ => gap_sign suf (by decide))).app (Chunk.any (by rw [name_kind hn]; decide)) (fun suf _ => (hd_name hn).noEq suf)).app ((Chunk.sign (s := ⟨#[41]⟩) (sg rfl)).weak fun _ g => g.noEq) (fun suf _ => gap_sign suf (by decide)), ⟨108, _, rfl, by decide⟩⟩
 | cell h x hk hx =>
   subst h hk
   have hn := shape_name hg.1 rfl
   obtain ⟨c1, c2⟩ := ih x (by simp) hx.good
   rw [exS1, tE1]
   show Chunk (ByteArray.data (s ++ ⟨#[91]⟩ ++ exS x ++ ⟨#[93]⟩)).toList ([s] ++ [⟨#[91]⟩] ++ tE x ++ [⟨#[93]⟩]) Gap ∧ Hd (ByteArray.data (s ++ ⟨#[91]⟩ ++ exS x ++ ⟨#[93]⟩)).toList
   rw [toL_app, toL_app, toL_app]
   exact ⟨(((Chunk.any (by rw [name_kind hn]; decide)).app (Chunk.sign (s := ⟨#[91]⟩) (sg rfl)) (fun suf _ => gap_sign suf (by decide))).app c1 (fun suf _ => c2.noEq suf)).app ((Chunk.sign (s := ⟨#[93]⟩) (sg rfl)).weak fun _ g => g.noEq) (fun suf _ => gap_sign suf (by decide)), (((hd_name hn).app _).app _).app _⟩
 | neg h x hk hx =>
   subst h hk
   obtain ⟨c1, c2⟩ := ih x (by simp) hx.good
   obtain ⟨d1, d2⟩ := par_chunk (k := kindT x) 3 c1 c2
   rw [exS1, tE1]
   show Chunk (ByteArray.data (⟨#[45]⟩ ++ par (kindT x) (exS x) 3)).toList ([⟨#[45]⟩] ++ parT (kindT x) (tE x) 3) Gap ∧ Hd (ByteArray.data (⟨#[45]⟩ ++ par (kindT x) (exS x) 3)).toList
   rw [toL_app]
   exact ⟨(Chunk.sign (s := ⟨#[45]⟩) (sg rfl)).app d1 (fun suf _ => d2.noEq suf), ⟨45, _, rfl, by decide⟩⟩
 | pair h x y hk hx hy =>
   subst hk
   obtain ⟨c1, c2⟩ := ih x (by simp) hx.good
   obtain ⟨e1, e2⟩ := ih y (by simp) hy.good
   rw [exS2, tE2]
   have go : ∀ (la lb : Int) (c : UInt8), signB ⟨#[c]⟩ = true → Chunk (ByteArray.data (par (kindT x) (exS x) la ++ ⟨#[32, c, 32]⟩ ++ par (kindT y) (exS y) lb)).toList (parT (kindT x) (tE x) la ++ [⟨#[c]⟩] ++ parT (kindT y) (tE y) lb) Gap ∧ Hd (ByteArray.data (par (kindT x) (exS x) la ++ ⟨#[32, c, 32]⟩ ++ par (kindT y) (exS y) lb)).toList := by
    intro la lb c hc
    obtain ⟨d1, d2⟩ := par_chunk (k := kindT x) la c1 c2
    obtain ⟨g1, g2⟩ := par_chunk (k := kindT y) lb e1 e2
    rw [toL_app, toL_app]
    exact ⟨(d1.app (sp3 hc (fun _ => True)) (fun suf _ => .inr ⟨32, _, rfl, by decide⟩)).app g1 (fun _ _ => trivial), (d2.app _).app _⟩
   rcases h with rfl | rfl | rfl
   ·exact go 1 2 43 (sg rfl)
   ·exact go 1 2 45 (sg rfl)
   ·exact go 2 3 42 (sg rfl)
 | cond h x y hk hx hy =>
   subst hk
   obtain ⟨c1, c2⟩ := ih x (by simp) hx.good
   obtain ⟨e1, e2⟩ := ih y (by simp) hy.good
   obtain ⟨s1, _⟩ := sign_is h
   rw [exS2, tE2]
   have l1 : lay k s m (kindT x) (exS x) (kindT y) (exS y) = exS x ++ ⟨#[32]⟩ ++ signI k ++ ⟨#[32]⟩ ++ exS y := by
    unfold lay
    rw [if_neg (by omega), if_neg (by omega), if_neg (by omega), if_neg (by omega), if_neg (by omega), if_neg (by omega), if_neg (by omega), if_neg (by omega)]
   have l2 : layT k s m (kindT x) (tE x) (kindT y) (tE y) = tE x ++ [signI k] ++ tE y := by
    unfold layT
    rw [if_neg (by omega), if_neg (by omega), if_neg (by omega), if_neg (by omega), if_neg (by omega), if_neg (by omega), if_neg (by omega), if_neg (by omega)]
   rw [l1, l2, toL_app, toL_app, toL_app, toL_app]
   have b1 : Chunk (exS x).data.toList (tE x ++ []) Gap := by rw [List.append_nil]; exact c1
   refine ⟨?_, (((c2.app _).app _).app _).app _⟩
   have q1 := c1.app (Chunk.blank (c := 32) (.inl rfl) (fun _ => True)) (fun suf _ => .inr ⟨32, suf, rfl, by decide⟩)
   have q2 := q1.app (Chunk.sign s1) (fun _ _ => trivial)
   have q3 := q2.app (Chunk.blank (c := 32) (.inl rfl) (fun _ => True)) (fun suf _ => .inr ⟨32, suf, rfl, by decide⟩)
   have q4 := q3.app e1 (fun _ _ => trivial)
   simp only [List.append_nil] at q4
   exact q4
end Go.Proofs.YtedfnadgmhjojaaGreatDoor
