/-
  ROWS OF TREES OF ONE'S OWN; CONTRACTS of the program's varNamed, setTo.
  PLAIN FACTS on lists of trees.
  CONTRACTS of the specification's l02Var, l02Num at 1, l02Set.
-/
import Derived.Test.YtedfnadgmhjojaaGreatDoorMSRt
import Derived.Deep.RegionLaw
import Derived.Deep.AppendLies
import Derived.Deep.LoopGhost
namespace Go.Proofs.YtedfnadgmhjojaaGreatDoor
open Go.RowKit
open Pl

/-- A row of one's own of trees that own their memory, in blocks from B on. -/
structure OwnA (w : World) (B : Nat) (v : Value) (els : List A) : Prop where
 own : w.ownsRow B 38 4 v els.length (cellsL els)
 sits : SitsL w els
 new : NewL B els
 apart : ∀ g, v.ownBlock = some g → g ∉ feet els
theorem OwnA.nil (w : World) (B : Nat) : OwnA w B (.slice none 0 0) [] := ⟨World.ownsRow_nil _ _ _ _, trivial, ⟨List.nodup_nil, fun b hb => (by cases hb)⟩, fun g e => (by cases e)⟩
theorem OwnA.grown {w w' : World} {B : Nat} {v : Value} {els : List A} {row : Option Nat} (h : OwnA w B v els) (hg : w.grownBy w' row) (hr : ∀ p, row = some p → p < B) : OwnA w' B v els := by
 have lt := SitsL.lt h.sits
 refine ⟨h.own.kept hg ?_, h.sits.stay fun q hq => hg.block q (lt q hq) fun e => ?_, h.new, h.apart⟩
 ·cases hv : v.ownBlock with
  | none => exact .inl rfl
  | some g => exact .inr fun e => by have := (h.own.lt g hv).1; have := hr g e.symm; omega
 ·have := h.new.2 q hq
  have := hr q e.symm
  omega
theorem below_grown {w w' : World} (h : Below w.heap.size w w') (row : Option Nat) : w.grownBy w' row := ⟨h.os, h.tape, h.output, h.size, fun q hq _ => h.block q hq⟩
theorem OwnA.below {w w' : World} {B : Nat} {v : Value} {els : List A} (h : OwnA w B v els) (hb : Below w.heap.size w w') : OwnA w' B v els := h.grown (below_grown hb none) (fun p e => by cases e)
theorem NewL.append {n n1 : Nat} {xs ys : List A} (h : NewL n xs) (hlt : ∀ b ∈ feet xs, b < n1) (hy : NewL n1 ys) (hn : n ≤ n1) : NewL n (xs ++ ys) := by
 unfold NewL
 rw [feet_append]
 refine ⟨List.nodup_append.2 ⟨h.1, hy.1, fun p hp q hq e => ?_⟩, fun b hb => ?_⟩
 ·have h1 := hlt p hp
  have h2 := hy.2 q hq
  omega
 ·rcases List.mem_append.1 hb with hb | hb
  ·exact h.2 b hb
  ·exact Nat.le_trans hn (hy.2 b hb)
theorem sitsL_append {w : World} {xs ys : List A} (h : SitsL w xs) (hy : SitsL w ys) : SitsL w (xs ++ ys) :=
 (sitsL_iff _ _).2 fun y hm => by
  rcases List.mem_append.1 hm with hm | hm
  ·exact (sitsL_iff _ _).1 h y hm
  ·exact (sitsL_iff _ _).1 hy y hm
/-- Some trees more: they are younger than the row; they lay in a block of their own. -/
theorem OwnA.push {w w3 w4 : World} {B g c2 j : Nat} {sa : Option Addr} {sc : Nat} {els xs : List A} {cs : Array Value} (h : OwnA w B (.slice sa els.length sc) els) (hb : Below w.heap.size w w3) (hx : SitsL w3 xs) (hn : NewL w.heap.size xs) (hB : B ≤ w.heap.size)
 (hown : w4.ownsRow B 38 4 (.slice (some ⟨g, 0, none⟩) (els.length + j) c2) (els.length + j) (cellsL els ++ cellsL xs)) (hgrow : (w3.alloc (.cells cs 38)).grownBy w4 (Value.slice sa els.length sc).ownBlock)
 (hat : (Value.slice sa els.length sc).ownBlock = some g ∨ g = w3.heap.size + 1) (hj : xs.length = j) :
 OwnA w4 B (.slice (some ⟨g, 0, none⟩) (els ++ xs).length c2) (els ++ xs) := by
 have h3 := h.below hb
 have lx := SitsL.lt hx
 have le := SitsL.lt h3.sits
 have le0 := SitsL.lt h.sits
 have hol := h.own.lt
 have hlen : (els ++ xs).length = els.length + j := by simp [hj]
 have keep : ∀ q, q < w3.heap.size → (∀ g', (Value.slice sa els.length sc).ownBlock = some g' → q ≠ g') → w4.heap[q]? = w3.heap[q]? := fun q hq hne => by
  rw [hgrow.block q (by simp; omega) (fun e => hne q e.symm rfl), Lib.alloc_old _ _ _ hq]
 refine ⟨?_, ?_, ?_, ?_⟩
 ·rw [hlen, cellsL_append]
  exact hown
 ·refine sitsL_append (h3.sits.stay fun q hq => ?_) (hx.stay fun q hq => ?_)
  ·rw [keep q (le q hq) (fun g' e => fun e2 => h.apart g' e (e2 ▸ hq))]
  ·rw [keep q (lx q hq) (fun g' e => by have := (hol g' e).2; have := hn.2 q hq; omega)]
 ·exact NewL.append h.new le0 hn hB
 ·intro g' e hq
  simp [Value.ownBlock] at e
  subst e
  rw [feet_append, List.mem_append] at hq
  rcases hat with hat | hat
  ·rcases hq with hq | hq
   ·exact h.apart g hat hq
   ·have := (hol g hat).2
    have := hn.2 g hq
    omega
  ·rcases hq with hq | hq
   ·have := le g hq; omega
   ·have := lx g hq; omega
/-- The capacity of a tree's list. -/
def A.room : A → Prop
 | .node _ _ _ _ c kk => kk.length ≤ c ∧ c ≤ maxLen
theorem OwnA.tree {w : World} {B : Nat} {sa : Option Addr} {sc : Nat} {els : List A} (h : OwnA w B (.slice sa els.length sc) els) {k m : Int} {s : ByteArray} (hs : s.size ≤ maxLen) (hn : els.length ≤ maxLen) :
 Sits w (.node k s m sa sc els) ∧ New B (.node k s m sa sc els) ∧ (A.node k s m sa sc els).room := by
 rcases h.own.2 with ⟨e, h0⟩ | ⟨g, c, cur, e, hb, hg, h1, h2, h3, h4⟩
 ·have : els = [] := List.eq_nil_of_length_eq_zero h0
  subst this
  simp at e
  obtain ⟨rfl, rfl⟩ := e
  exact ⟨Sits.leaf _ _ _ hs, New.leaf _ _ _ _ _ _, by simp [A.room]⟩
 ·simp at e
  obtain ⟨rfl, rfl⟩ := e
  refine ⟨Sits.node hs hn h.sits hg (fun i v hv => ?_), New.node h.new hb (h.apart g rfl), h1, h2⟩
  rw [← h4, List.getElem?_take] at hv
  split at hv
  ·simpa using hv
  ·cases hv
theorem below_put4 {B : Nat} {a b : World} (h : Below B a b) {p : Nat} (hp : B ≤ p) (v0 v1 v2 v3 : Value) : Below B a (put4 b p v0 v1 v2 v3) :=
 (((h.setCell (p := ⟨p, 0, none⟩) hp _).setCell (p := ⟨p, 1, none⟩) hp _).setCell (p := ⟨p, 2, none⟩) hp _).setCell (p := ⟨p, 3, none⟩) hp _
/-- A tree whose list may be appended to. -/
def A.mine (w : World) (B : Nat) : A → Prop
 | .node _ s _ a c kk => OwnA w B (.slice a kk.length c) kk ∧ s.size ≤ maxLen ∧ kk.length ≤ maxLen
theorem A.mine.tree {w : World} {B : Nat} {x : A} (h : x.mine w B) : Sits w x ∧ New B x ∧ x.room := by
 obtain ⟨k, s, m, a, c, kk⟩ := x
 exact h.1.tree h.2.1 h.2.2
theorem A.mine.grown {w w' : World} {B : Nat} {x : A} {row : Option Nat} (h : x.mine w B) (hg : w.grownBy w' row) (hr : ∀ p, row = some p → p < B) : x.mine w' B := by
 obtain ⟨k, s, m, a, c, kk⟩ := x
 exact ⟨h.1.grown hg hr, h.2⟩
theorem A.mine.below {w w' : World} {B : Nat} {x : A} (h : x.mine w B) (hb : Below w.heap.size w w') : x.mine w' B := h.grown (below_grown hb none) (fun p e => by cases e)
theorem put4_grown (w : World) (p : Nat) (v0 v1 v2 v3 : Value) : w.grownBy (put4 w p v0 v1 v2 v3) (some p) := ⟨rfl, rfl, rfl, by rw [put4_size]; exact Nat.le_refl _, fun q _ hq => put4_other _ _ _ _ (fun e => hq (by rw [e]))⟩
theorem A.mine.put4 {w : World} {B : Nat} {x : A} (h : x.mine w B) {p : Nat} (hp : p < B) (v0 v1 v2 v3 : Value) : x.mine (put4 w p v0 v1 v2 v3) B := h.grown (put4_grown w p _ _ _ _) (fun q e => by cases e; exact hp)
theorem A.mine.mono {w : World} {B B' : Nat} {x : A} (h : x.mine w B) (hB : B' ≤ B) : x.mine w B' := by
 obtain ⟨k, s, m, a, c, kk⟩ := x
 obtain ⟨⟨⟨h1, h2⟩, h3, h4, h5⟩, h6⟩ := h
 refine ⟨⟨⟨h1, ?_⟩, h3, h4.mono hB, h5⟩, h6⟩
 rcases h2 with h2 | ⟨g, cap, cur, e, hb, r⟩
 ·exact .inl h2
 ·exact .inr ⟨g, cap, cur, e, Nat.le_trans hB hb, r⟩
/-- A new tree is answered. -/
def TPost (t : T) (w : World) (e : Ending) (w' : World) : Prop := ∃ x : A, e = .returned x.val ∧ x.erase = t ∧ x.mine w' w.heap.size ∧ Below w.heap.size w w'

end Go.Proofs.YtedfnadgmhjojaaGreatDoor
namespace Go.Proofs.YtedfnadgmhjojaaGreatDoor
open Go.RowKit
open Pl
theorem cnt_one (t : T) : 1 ≤ cnt t := by cases t; simp only [cnt]; omega
theorem cnts_append (p q : List T) : cnts (p ++ q) = cnts p + cnts q := by
 induction p with
 | nil => simp [cnts]
 | cons x r ih => simp only [List.cons_append, cnts, ih]; omega
theorem len_cnts (kk : List T) : kk.length ≤ cnts kk := by
 induction kk with
 | nil => simp [cnts]
 | cons x r ih => have := cnt_one x; simp only [cnts, List.length_cons]; omega
theorem take_snoc {α : Type} {l : List α} {i : Nat} {t : α} (h : l[i]? = some t) : l.take (i + 1) = l.take i ++ [t] := by
 rw [List.take_add_one, h]; rfl
theorem drop_cons {α : Type} {l : List α} {i : Nat} {t : α} (h : l[i]? = some t) : l.drop i = t :: l.drop (i + 1) := by
 obtain ⟨hi, e⟩ := List.getElem?_eq_some_iff.1 h
 rw [List.drop_eq_getElem_cons hi, e]
theorem node_at {w w' : World} {a : Option Addr} {D : List T} {i : Nat} {k m : Int} {s : ByteArray} {kk : List T} (hk : Kids w 0 a D) (hb : Below w.heap.size w w') (hx : D[i]? = some (.node k s m kk)) :
 ∃ (b o : Nat) (xa : Option Addr) (xc : Nat), a = some ⟨b, o, none⟩ ∧ w'.cell? ⟨b, o + i * 4, none⟩ = some (.int .i64 k) ∧ w'.cell? ⟨b, o + i * 4 + 1, none⟩ = some (.string s) ∧ w'.cell? ⟨b, o + i * 4 + 2, none⟩ = some (.int .i64 m) ∧ w'.cell? ⟨b, o + i * 4 + 3, none⟩ = some (.slice xa kk.length xc) ∧ s.size ≤ maxLen ∧ kk.length ≤ maxLen ∧ Kids w' 0 xa kk := by
 rcases hk.below hb with rfl | ⟨b, o, rfl, _, hll⟩
 ·simp at hx
 ·obtain ⟨xa, xc, h⟩ := hll.at hx
  exact ⟨b, o, xa, xc, rfl, h⟩
end Go.Proofs.YtedfnadgmhjojaaGreatDoor
namespace Go.Proofs.YtedfnadgmhjojaaGreatDoor
open Go.RowKit
open Pl

/-- l02Copy answers the same tree, in memory of its own. -/
def CopyOk (t : T) : Prop := match t with
 | .node k s m kk => s.size ≤ maxLen → cnts kk ≤ 2000000 → ∀ (a : Option Addr) (cc : Nat) (w : World), Kids w 0 a kk → Calls Tryz.prog 29 #[.agg #[.int .i64 k, .string s, .int .i64 m, .slice a kk.length cc]] w (TPost (.node k s m kk) w)
set_option maxRecDepth 100000 in
set_option maxHeartbeats 6400000 in
theorem sCopy_any (t : T) : CopyOk t := by
 refine T.induct (P := CopyOk) ?_ t
 intro k s m kk IH hs hct a cc w hk
 have B1 : Below w.heap.size w ((w.alloc (.cells #[.int .i64 k, .string s, .int .i64 m, .slice a kk.length cc] 38)).alloc (.cells #[.int .i64 0, .string ⟨#[]⟩, .int .i64 0, .slice none 0 0] 38)) := ((Below.refl w.heap.size w).alloc (Nat.le_refl _) _).alloc (by simp) _
 have h00 := heap_alloc_new w (.cells #[.int .i64 k, .string s, .int .i64 m, .slice a kk.length cc] 38)
 have h01 := (Lib.alloc_old (w.alloc (.cells #[.int .i64 k, .string s, .int .i64 m, .slice a kk.length cc] 38)) (.cells #[.int .i64 0, .string ⟨#[]⟩, .int .i64 0, .slice none 0 0] 38) w.heap.size (by simp)).trans h00
 have h0 := heap_alloc_new (w.alloc (.cells #[.int .i64 k, .string s, .int .i64 m, .slice a kk.length cc] 38)) (.cells #[.int .i64 0, .string ⟨#[]⟩, .int .i64 0, .slice none 0 0] 38)
 have hsz : (w.alloc (.cells #[.int .i64 k, .string s, .int .i64 m, .slice a kk.length cc] 38)).heap.size = w.heap.size + 1 := by simp
 rw [hsz] at h0
 obtain ⟨P, hP⟩ : ∃ q, w.heap.size = q := ⟨_, rfl⟩
 obtain ⟨w1, hw1⟩ : ∃ q, (w.alloc (.cells #[.int .i64 k, .string s, .int .i64 m, .slice a kk.length cc] 38)).alloc (.cells #[.int .i64 0, .string ⟨#[]⟩, .int .i64 0, .slice none 0 0] 38) = q := ⟨_, rfl⟩
 rw [hw1] at h0 h01 B1
 rw [hP] at h0 h01
 have HB := mkHid B1
 have HK := mkHid (hk.below B1)
 have H0 := mkHid h0
 have H1 := mkHid h01
 have HIH := mkHid IH
 have hlk := len_cnts kk
 have hlt : P + 1 < w1.heap.size := (Array.getElem?_eq_some_iff.1 h0).1
 obtain ⟨i0, hi0, hz0⟩ := Option.map_eq_some_iff.1 Tryz.info38
 simp only [Prod.mk.injEq] at hz0
 obtain ⟨hz1, hz2, hz3⟩ := hz0
 have HI := mkHid (show Tryz.prog.info? 38 = some i0 ∧ i0.zero = some (.agg #[.int .i64 0, .string ByteArray.empty, .int .i64 0, .slice none 0 0]) ∧ i0.size = 4 ∧ i0.bytes = 56 from ⟨hi0, hz1, hz2, hz3⟩)
 have HO0 : Hid (OwnA (w1.alloc (.cells #[] 38)) w1.heap.size (.slice (some ⟨w1.heap.size, 0, none⟩) 0 0) []) := mkHid ⟨World.ownsRow_made (e := 38) (size := 4) (base := w1.heap.size) w1 #[] 0 (Nat.le_refl _) (Nat.zero_le _) rfl, trivial, ⟨List.nodup_nil, fun b hb => (by cases hb)⟩, fun g e h => (by cases h)⟩
 have HB0 := mkHid ((Below.refl w1.heap.size w1).alloc (Nat.le_refl _) (.cells #[] 38))
 clear IH hk B1 hi0 hz1 hz2 hz3 h00 h01 h0
 go_enter Tryz.func29, Tryz.ntmps29
 go_wp2
 have HPS := mkHid hP
 clear hw1 hP hsz
 go_loopg [3, 4] kk.length (fun g s3 s4 wr => ∃ (i : Nat) (els : List A) (sa : Option Addr) (sc : Nat), i + g = kk.length ∧ s4 = .int .i64 i ∧ s3 = .slice sa els.length sc ∧ OwnA wr w1.heap.size (.slice sa els.length sc) els ∧ erases els = kk.take i ∧ Below w1.heap.size w1 wr)
 case atStart => exact ⟨0, [], _, _, by omega, rfl, rfl, HO0.out, rfl, HB0.out⟩
 case round =>
  obtain ⟨i, els, sa, sc, hig, rfl, rfl, hoa, her, hbel⟩ := hrel
  have HOA := mkHid hoa
  have HER := mkHid her
  have HBL := mkHid hbel
  have hel : els.length ≤ 2000000 := by rw [← erases_len, her, List.length_take]; omega
  obtain ⟨p0, p1, p2, p3, p4, p5, p6, p7⟩ := four_of ((hbel.block P (by omega)).trans H1.out)
  have hz1 := hbel.size
  clear hoa her HO0 HB0
  by_cases hil : i < kk.length
  ·obtain ⟨x, hx⟩ : ∃ x, kk[i]? = some x := ⟨_, List.getElem?_eq_getElem hil⟩
   have HX := mkHid hx
   have hmem := List.mem_of_getElem? hx
   have hix := HIH.out x hmem
   have hcx : cnt x ≤ cnts kk := by
    have h1 := cnts_append (kk.take i) (kk.drop i)
    rw [List.take_append_drop, drop_cons hx] at h1
    simp only [cnts] at h1
    omega
   obtain ⟨xk, xs, xm, xkk⟩ := x
   simp only [cnt] at hcx
   obtain ⟨b, o, xa, xc, rfl, c0, c1, c2, c3, hxs, _, hxk⟩ := node_at HK.out hbel hx
   have i0' : (0 : Int) ≤ (i : Int) := by omega
   have i1 : (i : Int) < (kk.length : Int) := by omega
   obtain ⟨g1, rfl⟩ : ∃ q, gk = q + 1 := ⟨gk - 1, by omega⟩
   have w3 : IntKind.i64.wrap ((i : Int) + 1) = (i : Int) + 1 := IntWalk.i64_in _ (by omega)
   have HC := mkHid (hix hxs (by omega) xa xc wr hxk)
   clear hx hbel hix hxk
   go_wp2_with (first | (go_at_call 29; refine HC.out.mono ?_; rintro e w6 ⟨y, rfl, hye, hym, hb6⟩; obtain ⟨zk, zs, zm, za, zc, zkk⟩ := y; simp only [A.val]; have OA := mkHid (HOA.out.below hb6); have OW := mkHid (OA.out.own.alloc (.cells #[.int .i64 zk, .string zs, .int .i64 zm, .slice za zkk.length zc] 38)); have HM := mkHid (And.intro hye (And.intro hym hb6)); have hz6 := hb6.size; clear hye hym hb6) | (at_builtin; refine wpList_append_lies _ rfl _ _ _ rfl w1.heap.size 38 i0 _ 4 56 Tryz.underlying36 HI.out.1 HI.out.2.1 HI.out.2.2.1 HI.out.2.2.2 rfl (by decide) _ _ _ rfl OW.out ⟨w6.heap.size, 0, none⟩ 1 1 [.int .i64 zk, .string zs, .int .i64 zm, .slice za zkk.length zc] rfl rfl (World.news_of_block (heap_alloc_new w6 _)) (fun u hu => by simp at hu; rcases hu with rfl | rfl | rfl | rfl <;> rfl) (by decide) (by unfold maxLen; omega) (by omega) (by simp; omega) (w6.heap.size + 1) (by simp) ?_; intro g cq w4 hown hgrow hat hlt4) | go_in)
   have hmt := HM.out.2.1.tree
   have HP := mkHid (HOA.out.push HM.out.2.2 (sitsL_one hmt.1) (NewL.one hmt.2.1) hz1 hown hgrow hat rfl)
   have HB4 : Hid (Below w1.heap.size w1 w4) := mkHid (by
    have b6 := below_step HBL.out HM.out.2.2
    exact (b6.alloc b6.size _).grown hgrow (Nat.le_trans b6.size (by simp)) (fun q e => (HOA.out.own.lt q e).1))
   have HEE : Hid (erases (els ++ [A.node zk zs zm za zc zkk]) = kk.take (i + 1)) := mkHid (by rw [erases_append, HER.out, take_snoc HX.out]; simp only [erases, HM.out.1])
   clear hown hgrow hat OW
   go_wp2
   go_roundg g1
   case rel => exact ⟨i + 1, _, _, _, by omega, by simp, by rw [List.length_append]; rfl, HP.out, HEE.out, HB4.out⟩
   case measure => omega
  ·have hik : i = kk.length := by omega
   subst hik
   have i1 : ¬ (kk.length : Int) < (kk.length : Int) := by omega
   have hR := (hbel.block (P + 1) hlt).trans H0.out
   obtain ⟨e0, e1, e2, e3, e4, e5, e6, e7⟩ := four_of hR
   have HEE : Hid (erases els = kk) := mkHid (by rw [HER.out, List.take_length])
   have HP3 := mkHid ((hbel.block P (by omega)).trans H1.out)
   have HR := mkHid hR
   clear hbel hR
   go_wp2
   have hR2 : (wr.setCell ⟨P, 3, none⟩ (.slice sa els.length sc)).heap[P + 1]? = some (.cells #[.int .i64 0, .string ⟨#[]⟩, .int .i64 0, .slice none 0 0] 38 (0, 0)) := (Below.heap_setCell wr ⟨P, 3, none⟩ _ (P + 1) (by simp)).trans HR.out
   obtain ⟨q0, q1, q2, q3⟩ := put4_cells0 hR2 (.int .i64 k) (.string s) (.int .i64 m) (.slice sa els.length sc)
   have hg : wr.grownBy (wr.setCell ⟨P, 3, none⟩ (.slice sa els.length sc)) (some P) := ⟨rfl, rfl, rfl, by simp [World.setCell], fun q _ hq => Below.heap_setCell _ _ _ _ (fun e => hq (by rw [e]))⟩
   have hm : (A.node k s m sa sc els).mine wr w1.heap.size := ⟨HOA.out, hs, by unfold maxLen; omega⟩
   refine bodyPost_ret (v := (A.node k s m sa sc els).val) (by simp [results, Tryz.results29, go_sem, q0, q1, q2, q3, A.val]) rfl ⟨_, rfl, ?_, ?_, ?_⟩
   ·simp only [A.erase, HEE.out]
   ·exact ((hm.grown hg (fun p e => by cases e; omega)).put4 hlt _ _ _ _).mono HB.out.size
   ·have hw : w.heap.size ≤ P := Nat.le_of_eq HPS.out
    exact below_put4 ((below_step HB.out HBL.out).setCell (p := ⟨P, 3, none⟩) hw _) (Nat.le_succ_of_le hw) _ _ _ _
end Go.Proofs.YtedfnadgmhjojaaGreatDoor
