/-
  ROWS OF TREES OF ONE'S OWN; CONTRACTS of the program's varNamed, setTo.
  PLAIN FACTS on lists of trees.
  CONTRACTS of the specification's l02Var, l02Num at 1, l02Set.
  A REGION THAT DRAWS ITS ORDER, BY AN INVARIANT: one obligation for each operation, whatever has come up before it.
  CONTRACTS of the cursor that draws numbers from bytes: pick, once, size, l01Open: they answer some number within bounds, and write the cursor's own block alone.
  CONTRACTS of the drawing of names and numbers: once, size, l02DrawVar, l02DrawArr, l02Num: they write the cursor's own block alone.
  CONTRACTS of l02Num, l02One, l02Two over trees of one's own; what a drawing answers.
-/
import Derived.Test.YtjmjmdmnejnlbaaGreatDoorMSRt
import Derived.Deep.RegionLaw
import Derived.Deep.AppendLies
import Derived.Deep.LoopGhost
import Derived.Deep.RegionHeld3
import Derived.ProofKit
import Derived.OpenShut
import Derived.ChangeOld
import Derived.Lib.SmallJoins
import Derived.Deep.QuietTactic
import Derived.BigQuiet
namespace Go.Proofs.YtjmjmdmnejnlbaaGreatDoor
open Go.RowKit
open Pl

/-- A row of one's own of trees that own their memory, in blocks from B on. -/
structure OwnA (w : World) (B : Nat) (v : Value) (els : List A) : Prop where
 own : w.ownsRow B 26 4 v els.length (cellsL els)
 sits : SitsL w els
 new : NewL B els
 apart : ∀ g, v.ownBlock = some g → g ∉ feet els
theorem OwnA.nil (w : World) (B : Nat) : OwnA w B (.slice none 0 0) [] := ⟨World.ownsRow_nil _ _ _ _, trivial, ⟨List.nodup_nil, fun b hb => (by cases hb)⟩, fun g e => (by cases e)⟩
theorem OwnA.grown {w w' : World} {B : Nat} {v : Value} {els : List A} {row : Option Nat} (h : OwnA w B v els) (hg : w.grownBy w' row) (hr : ∀ p, row = some p → p < B) : OwnA w' B v els := by
 have lt := SitsL.lt h.sits
 refine ⟨h.own.kept hg ?_, h.sits.stay fun q hq => hg.block q (lt q hq) fun e => ?_, h.new, h.apart⟩
 ·cases hv : v.ownBlock with
  | none => exact .inl rfl
  | some g => exact .inr fun e => by have := (h.own.lt g hv).1; have := hr g e.symm; omega
 ·have := h.new.2 q hq
  have := hr q e.symm
  omega
theorem below_grown {w w' : World} (h : Below w.heap.size w w') (row : Option Nat) : w.grownBy w' row := ⟨h.os, h.tape, h.output, h.size, fun q hq _ => h.block q hq⟩
theorem OwnA.below {w w' : World} {B : Nat} {v : Value} {els : List A} (h : OwnA w B v els) (hb : Below w.heap.size w w') : OwnA w' B v els := h.grown (below_grown hb none) (fun p e => by cases e)
theorem NewL.append {n n1 : Nat} {xs ys : List A} (h : NewL n xs) (hlt : ∀ b ∈ feet xs, b < n1) (hy : NewL n1 ys) (hn : n ≤ n1) : NewL n (xs ++ ys) := by
 unfold NewL
 rw [feet_append]
 refine ⟨List.nodup_append.2 ⟨h.1, hy.1, fun p hp q hq e => ?_⟩, fun b hb => ?_⟩
 ·have h1 := hlt p hp
  have h2 := hy.2 q hq
  omega
 ·rcases List.mem_append.1 hb with hb | hb
  ·exact h.2 b hb
  ·exact Nat.le_trans hn (hy.2 b hb)
theorem sitsL_append {w : World} {xs ys : List A} (h : SitsL w xs) (hy : SitsL w ys) : SitsL w (xs ++ ys) :=
 (sitsL_iff _ _).2 fun y hm => by
  rcases List.mem_append.1 hm with hm | hm
  ·exact (sitsL_iff _ _).1 h y hm
  ·exact (sitsL_iff _ _).1 hy y hm
/-- Some trees more: they are younger than the row; they lay in a block of their own. -/
theorem OwnA.push {w w3 w4 : World} {B g c2 j : Nat} {sa : Option Addr} {sc : Nat} {els xs : List A} {cs : Array Value} (h : OwnA w B (.slice sa els.length sc) els) (hb : Below w.heap.size w w3) (hx : SitsL w3 xs) (hn : NewL w.heap.size xs) (hB : B ≤ w.heap.size)
 (hown : w4.ownsRow B 26 4 (.slice (some ⟨g, 0, none⟩) (els.length + j) c2) (els.length + j) (cellsL els ++ cellsL xs)) (hgrow : (w3.alloc (.cells cs 26)).grownBy w4 (Value.slice sa els.length sc).ownBlock)
 (hat : (Value.slice sa els.length sc).ownBlock = some g ∨ g = w3.heap.size + 1) (hj : xs.length = j) :
 OwnA w4 B (.slice (some ⟨g, 0, none⟩) (els ++ xs).length c2) (els ++ xs) := by
 have h3 := h.below hb
 have lx := SitsL.lt hx
 have le := SitsL.lt h3.sits
 have le0 := SitsL.lt h.sits
 have hol := h.own.lt
 have hlen : (els ++ xs).length = els.length + j := by simp [hj]
 have keep : ∀ q, q < w3.heap.size → (∀ g', (Value.slice sa els.length sc).ownBlock = some g' → q ≠ g') → w4.heap[q]? = w3.heap[q]? := fun q hq hne => by
  rw [hgrow.block q (by simp; omega) (fun e => hne q e.symm rfl), Lib.alloc_old _ _ _ hq]
 refine ⟨?_, ?_, ?_, ?_⟩
 ·rw [hlen, cellsL_append]
  exact hown
 ·refine sitsL_append (h3.sits.stay fun q hq => ?_) (hx.stay fun q hq => ?_)
  ·rw [keep q (le q hq) (fun g' e => fun e2 => h.apart g' e (e2 ▸ hq))]
  ·rw [keep q (lx q hq) (fun g' e => by have := (hol g' e).2; have := hn.2 q hq; omega)]
 ·exact NewL.append h.new le0 hn hB
 ·intro g' e hq
  simp [Value.ownBlock] at e
  subst e
  rw [feet_append, List.mem_append] at hq
  rcases hat with hat | hat
  ·rcases hq with hq | hq
   ·exact h.apart g hat hq
   ·have := (hol g hat).2
    have := hn.2 g hq
    omega
  ·rcases hq with hq | hq
   ·have := le g hq; omega
   ·have := lx g hq; omega
/-- The capacity of a tree's list. -/
def A.room : A → Prop
 | .node _ _ _ _ c kk => kk.length ≤ c ∧ c ≤ maxLen
theorem OwnA.tree {w : World} {B : Nat} {sa : Option Addr} {sc : Nat} {els : List A} (h : OwnA w B (.slice sa els.length sc) els) {k m : Int} {s : ByteArray} (hs : s.size ≤ maxLen) (hn : els.length ≤ maxLen) :
 Sits w (.node k s m sa sc els) ∧ New B (.node k s m sa sc els) ∧ (A.node k s m sa sc els).room := by
 rcases h.own.2 with ⟨e, h0⟩ | ⟨g, c, cur, e, hb, hg, h1, h2, h3, h4⟩
 ·have : els = [] := List.eq_nil_of_length_eq_zero h0
  subst this
  simp at e
  obtain ⟨rfl, rfl⟩ := e
  exact ⟨Sits.leaf _ _ _ hs, New.leaf _ _ _ _ _ _, by simp [A.room]⟩
 ·simp at e
  obtain ⟨rfl, rfl⟩ := e
  refine ⟨Sits.node hs hn h.sits hg (fun i v hv => ?_), New.node h.new hb (h.apart g rfl), h1, h2⟩
  rw [← h4, List.getElem?_take] at hv
  split at hv
  ·simpa using hv
  ·cases hv
theorem below_put4 {B : Nat} {a b : World} (h : Below B a b) {p : Nat} (hp : B ≤ p) (v0 v1 v2 v3 : Value) : Below B a (put4 b p v0 v1 v2 v3) :=
 (((h.setCell (p := ⟨p, 0, none⟩) hp _).setCell (p := ⟨p, 1, none⟩) hp _).setCell (p := ⟨p, 2, none⟩) hp _).setCell (p := ⟨p, 3, none⟩) hp _
/-- A tree whose list may be appended to. -/
def A.mine (w : World) (B : Nat) : A → Prop
 | .node _ s _ a c kk => OwnA w B (.slice a kk.length c) kk ∧ s.size ≤ maxLen ∧ kk.length ≤ maxLen
theorem A.mine.tree {w : World} {B : Nat} {x : A} (h : x.mine w B) : Sits w x ∧ New B x ∧ x.room := by
 obtain ⟨k, s, m, a, c, kk⟩ := x
 exact h.1.tree h.2.1 h.2.2
theorem A.mine.grown {w w' : World} {B : Nat} {x : A} {row : Option Nat} (h : x.mine w B) (hg : w.grownBy w' row) (hr : ∀ p, row = some p → p < B) : x.mine w' B := by
 obtain ⟨k, s, m, a, c, kk⟩ := x
 exact ⟨h.1.grown hg hr, h.2⟩
theorem A.mine.below {w w' : World} {B : Nat} {x : A} (h : x.mine w B) (hb : Below w.heap.size w w') : x.mine w' B := h.grown (below_grown hb none) (fun p e => by cases e)
theorem put4_grown (w : World) (p : Nat) (v0 v1 v2 v3 : Value) : w.grownBy (put4 w p v0 v1 v2 v3) (some p) := ⟨rfl, rfl, rfl, by rw [put4_size]; exact Nat.le_refl _, fun q _ hq => put4_other _ _ _ _ (fun e => hq (by rw [e]))⟩
theorem A.mine.put4 {w : World} {B : Nat} {x : A} (h : x.mine w B) {p : Nat} (hp : p < B) (v0 v1 v2 v3 : Value) : x.mine (put4 w p v0 v1 v2 v3) B := h.grown (put4_grown w p _ _ _ _) (fun q e => by cases e; exact hp)
theorem A.mine.mono {w : World} {B B' : Nat} {x : A} (h : x.mine w B) (hB : B' ≤ B) : x.mine w B' := by
 obtain ⟨k, s, m, a, c, kk⟩ := x
 obtain ⟨⟨⟨h1, h2⟩, h3, h4, h5⟩, h6⟩ := h
 refine ⟨⟨⟨h1, ?_⟩, h3, h4.mono hB, h5⟩, h6⟩
 rcases h2 with h2 | ⟨g, cap, cur, e, hb, r⟩
 ·exact .inl h2
 ·exact .inr ⟨g, cap, cur, e, Nat.le_trans hB hb, r⟩
/-- Trees laid into a new list. -/
theorem made_mine {w w' : World} {n b : Nat} {xs : List A} {k m : Int} {s : ByteArray} (hs : SitsL w xs) (hb : Below w.heap.size w w') (hB : w'.heap[b]? = some (.cells (cellsL xs).toArray 26 (0, 0))) (hge : w.heap.size ≤ b) (hn : NewL n xs) (hle : n ≤ w.heap.size)
 (hz : s.size ≤ maxLen) (hl : xs.length ≤ maxLen) : (A.node k s m (some ⟨b, 0, none⟩) xs.length xs).mine w' n := by
 have hlt := SitsL.lt hs
 refine ⟨⟨⟨by rw [cellsL_len], .inr ⟨b, xs.length, _, rfl, by omega, hB, Nat.le_refl _, hl, by rw [List.size_toArray, cellsL_len], by rw [← cellsL_len xs]; simp⟩⟩, hs.stay fun q hq => hb.block q (hlt q hq), hn, fun g e q => ?_⟩, hz, hl⟩
 simp [Value.ownBlock] at e
 have := hlt _ q
 omega
theorem leaf_mine (w : World) (B : Nat) {k m : Int} {s : ByteArray} (hs : s.size ≤ maxLen) : (A.node k s m none 0 []).mine w B := ⟨OwnA.nil _ _, hs, by simp [maxLen]⟩
/-- A new tree is answered. -/
def TPost (t : T) (w : World) (e : Ending) (w' : World) : Prop := ∃ x : A, e = .returned x.val ∧ x.erase = t ∧ x.mine w' w.heap.size ∧ Below w.heap.size w w'

end Go.Proofs.YtjmjmdmnejnlbaaGreatDoor
namespace Go.Proofs.YtjmjmdmnejnlbaaGreatDoor
open Go.RowKit
open Pl
theorem cnt_one (t : T) : 1 ≤ cnt t := by cases t; simp only [cnt]; omega
theorem cnts_append (p q : List T) : cnts (p ++ q) = cnts p + cnts q := by
 induction p with
 | nil => simp [cnts]
 | cons x r ih => simp only [List.cons_append, cnts, ih]; omega
theorem len_cnts (kk : List T) : kk.length ≤ cnts kk := by
 induction kk with
 | nil => simp [cnts]
 | cons x r ih => have := cnt_one x; simp only [cnts, List.length_cons]; omega
theorem take_snoc {α : Type} {l : List α} {i : Nat} {t : α} (h : l[i]? = some t) : l.take (i + 1) = l.take i ++ [t] := by
 rw [List.take_add_one, h]; rfl
theorem drop_cons {α : Type} {l : List α} {i : Nat} {t : α} (h : l[i]? = some t) : l.drop i = t :: l.drop (i + 1) := by
 obtain ⟨hi, e⟩ := List.getElem?_eq_some_iff.1 h
 rw [List.drop_eq_getElem_cons hi, e]
theorem node_at {w w' : World} {a : Option Addr} {D : List T} {i : Nat} {k m : Int} {s : ByteArray} {kk : List T} (hk : Kids w 0 a D) (hb : Below w.heap.size w w') (hx : D[i]? = some (.node k s m kk)) :
 ∃ (b o : Nat) (xa : Option Addr) (xc : Nat), a = some ⟨b, o, none⟩ ∧ w'.cell? ⟨b, o + i * 4, none⟩ = some (.int .i64 k) ∧ w'.cell? ⟨b, o + i * 4 + 1, none⟩ = some (.string s) ∧ w'.cell? ⟨b, o + i * 4 + 2, none⟩ = some (.int .i64 m) ∧ w'.cell? ⟨b, o + i * 4 + 3, none⟩ = some (.slice xa kk.length xc) ∧ s.size ≤ maxLen ∧ kk.length ≤ maxLen ∧ Kids w' 0 xa kk := by
 rcases hk.below hb with rfl | ⟨b, o, rfl, _, hll⟩
 ·simp at hx
 ·obtain ⟨xa, xc, h⟩ := hll.at hx
  exact ⟨b, o, xa, xc, rfl, h⟩
end Go.Proofs.YtjmjmdmnejnlbaaGreatDoor
namespace Go.Proofs.YtjmjmdmnejnlbaaGreatDoor
open Go.RowKit
open Pl

set_option maxHeartbeats 800000 in
theorem sVar_any (s : ByteArray) (w : World) : Calls Tryz.prog 39 #[.string s] w fun e w' => e = .returned (A.node 2 s 0 none 0 []).val ∧ Below w.heap.size w w' := by
 go_enter Tryz.func39, Tryz.ntmps39
 go_wp2
 exact bodyPost_ret (v := (A.node 2 s 0 none 0 []).val) (by simp [results, Tryz.results39, go_sem, A.val]) rfl ⟨rfl, (Below.refl _ _).alloc (Nat.le_refl _) _⟩
/-- l02Copy answers the same tree, in memory of its own. -/
def CopyOk (t : T) : Prop := match t with
 | .node k s m kk => s.size ≤ maxLen → cnts kk ≤ 1000 → ∀ (a : Option Addr) (cc : Nat) (w : World), Kids w 0 a kk → Calls Tryz.prog 45 #[.agg #[.int .i64 k, .string s, .int .i64 m, .slice a kk.length cc]] w (TPost (.node k s m kk) w)
set_option maxRecDepth 100000 in
set_option maxHeartbeats 6400000 in
theorem sCopy_any (t : T) : CopyOk t := by
 refine T.induct (P := CopyOk) ?_ t
 intro k s m kk IH hs hct a cc w hk
 have B1 : Below w.heap.size w ((w.alloc (.cells #[.int .i64 k, .string s, .int .i64 m, .slice a kk.length cc] 26)).alloc (.cells #[.int .i64 0, .string ⟨#[]⟩, .int .i64 0, .slice none 0 0] 26)) := ((Below.refl w.heap.size w).alloc (Nat.le_refl _) _).alloc (by simp) _
 have h00 := heap_alloc_new w (.cells #[.int .i64 k, .string s, .int .i64 m, .slice a kk.length cc] 26)
 have h01 := (Lib.alloc_old (w.alloc (.cells #[.int .i64 k, .string s, .int .i64 m, .slice a kk.length cc] 26)) (.cells #[.int .i64 0, .string ⟨#[]⟩, .int .i64 0, .slice none 0 0] 26) w.heap.size (by simp)).trans h00
 have h0 := heap_alloc_new (w.alloc (.cells #[.int .i64 k, .string s, .int .i64 m, .slice a kk.length cc] 26)) (.cells #[.int .i64 0, .string ⟨#[]⟩, .int .i64 0, .slice none 0 0] 26)
 have hsz : (w.alloc (.cells #[.int .i64 k, .string s, .int .i64 m, .slice a kk.length cc] 26)).heap.size = w.heap.size + 1 := by simp
 rw [hsz] at h0
 obtain ⟨P, hP⟩ : ∃ q, w.heap.size = q := ⟨_, rfl⟩
 obtain ⟨w1, hw1⟩ : ∃ q, (w.alloc (.cells #[.int .i64 k, .string s, .int .i64 m, .slice a kk.length cc] 26)).alloc (.cells #[.int .i64 0, .string ⟨#[]⟩, .int .i64 0, .slice none 0 0] 26) = q := ⟨_, rfl⟩
 rw [hw1] at h0 h01 B1
 rw [hP] at h0 h01
 have HB := mkHid B1
 have HK := mkHid (hk.below B1)
 have H0 := mkHid h0
 have H1 := mkHid h01
 have HIH := mkHid IH
 have hlk := len_cnts kk
 have hlt : P + 1 < w1.heap.size := (Array.getElem?_eq_some_iff.1 h0).1
 obtain ⟨i0, hi0, hz0⟩ := Option.map_eq_some_iff.1 Tryz.info26
 simp only [Prod.mk.injEq] at hz0
 obtain ⟨hz1, hz2, hz3⟩ := hz0
 have HI := mkHid (show Tryz.prog.info? 26 = some i0 ∧ i0.zero = some (.agg #[.int .i64 0, .string ByteArray.empty, .int .i64 0, .slice none 0 0]) ∧ i0.size = 4 ∧ i0.bytes = 56 from ⟨hi0, hz1, hz2, hz3⟩)
 have HO0 : Hid (OwnA (w1.alloc (.cells #[] 26)) w1.heap.size (.slice (some ⟨w1.heap.size, 0, none⟩) 0 0) []) := mkHid ⟨World.ownsRow_made (e := 26) (size := 4) (base := w1.heap.size) w1 #[] 0 (Nat.le_refl _) (Nat.zero_le _) rfl, trivial, ⟨List.nodup_nil, fun b hb => (by cases hb)⟩, fun g e h => (by cases h)⟩
 have HB0 := mkHid ((Below.refl w1.heap.size w1).alloc (Nat.le_refl _) (.cells #[] 26))
 clear IH hk B1 hi0 hz1 hz2 hz3 h00 h01 h0
 go_enter Tryz.func45, Tryz.ntmps45
 go_wp2
 have HPS := mkHid hP
 clear hw1 hP hsz
 go_loopg [3, 4] kk.length (fun g s3 s4 wr => ∃ (i : Nat) (els : List A) (sa : Option Addr) (sc : Nat), i + g = kk.length ∧ s4 = .int .i64 i ∧ s3 = .slice sa els.length sc ∧ OwnA wr w1.heap.size (.slice sa els.length sc) els ∧ erases els = kk.take i ∧ Below w1.heap.size w1 wr)
 case atStart => exact ⟨0, [], _, _, by omega, rfl, rfl, HO0.out, rfl, HB0.out⟩
 case round =>
  obtain ⟨i, els, sa, sc, hig, rfl, rfl, hoa, her, hbel⟩ := hrel
  have HOA := mkHid hoa
  have HER := mkHid her
  have HBL := mkHid hbel
  have hel : els.length ≤ 1000 := by rw [← erases_len, her, List.length_take]; omega
  obtain ⟨p0, p1, p2, p3, p4, p5, p6, p7⟩ := four_of ((hbel.block P (by omega)).trans H1.out)
  have hz1 := hbel.size
  clear hoa her HO0 HB0
  by_cases hil : i < kk.length
  ·obtain ⟨x, hx⟩ : ∃ x, kk[i]? = some x := ⟨_, List.getElem?_eq_getElem hil⟩
   have HX := mkHid hx
   have hmem := List.mem_of_getElem? hx
   have hix := HIH.out x hmem
   have hcx : cnt x ≤ cnts kk := by
    have h1 := cnts_append (kk.take i) (kk.drop i)
    rw [List.take_append_drop, drop_cons hx] at h1
    simp only [cnts] at h1
    omega
   obtain ⟨xk, xs, xm, xkk⟩ := x
   simp only [cnt] at hcx
   obtain ⟨b, o, xa, xc, rfl, c0, c1, c2, c3, hxs, _, hxk⟩ := node_at HK.out hbel hx
   have i0' : (0 : Int) ≤ (i : Int) := by omega
   have i1 : (i : Int) < (kk.length : Int) := by omega
   obtain ⟨g1, rfl⟩ : ∃ q, gk = q + 1 := ⟨gk - 1, by omega⟩
   have w3 : IntKind.i64.wrap ((i : Int) + 1) = (i : Int) + 1 := IntWalk.i64_in _ (by omega)
   have HC := mkHid (hix hxs (by omega) xa xc wr hxk)
   clear hx hbel hix hxk
   go_wp2_with (first | (go_at_call 45; refine HC.out.mono ?_; rintro e w6 ⟨y, rfl, hye, hym, hb6⟩; obtain ⟨zk, zs, zm, za, zc, zkk⟩ := y; simp only [A.val]; have OA := mkHid (HOA.out.below hb6); have OW := mkHid (OA.out.own.alloc (.cells #[.int .i64 zk, .string zs, .int .i64 zm, .slice za zkk.length zc] 26)); have HM := mkHid (And.intro hye (And.intro hym hb6)); have hz6 := hb6.size; clear hye hym hb6) | (at_builtin; refine wpList_append_lies _ rfl _ _ _ rfl w1.heap.size 26 i0 _ 4 56 Tryz.underlying24 HI.out.1 HI.out.2.1 HI.out.2.2.1 HI.out.2.2.2 rfl (by decide) _ _ _ rfl OW.out ⟨w6.heap.size, 0, none⟩ 1 1 [.int .i64 zk, .string zs, .int .i64 zm, .slice za zkk.length zc] rfl rfl (World.news_of_block (heap_alloc_new w6 _)) (fun u hu => by simp at hu; rcases hu with rfl | rfl | rfl | rfl <;> rfl) (by decide) (by unfold maxLen; omega) (by omega) (by simp; omega) (w6.heap.size + 1) (by simp) ?_; intro g cq w4 hown hgrow hat hlt4) | go_in)
   have hmt := HM.out.2.1.tree
   have HP := mkHid (HOA.out.push HM.out.2.2 (sitsL_one hmt.1) (NewL.one hmt.2.1) hz1 hown hgrow hat rfl)
   have HB4 : Hid (Below w1.heap.size w1 w4) := mkHid (by
    have b6 := below_step HBL.out HM.out.2.2
    exact (b6.alloc b6.size _).grown hgrow (Nat.le_trans b6.size (by simp)) (fun q e => (HOA.out.own.lt q e).1))
   have HEE : Hid (erases (els ++ [A.node zk zs zm za zc zkk]) = kk.take (i + 1)) := mkHid (by rw [erases_append, HER.out, take_snoc HX.out]; simp only [erases, HM.out.1])
   clear hown hgrow hat OW
   go_wp2
   go_roundg g1
   case rel => exact ⟨i + 1, _, _, _, by omega, by simp, by rw [List.length_append]; rfl, HP.out, HEE.out, HB4.out⟩
   case measure => omega
  ·have hik : i = kk.length := by omega
   subst hik
   have i1 : ¬ (kk.length : Int) < (kk.length : Int) := by omega
   have hR := (hbel.block (P + 1) hlt).trans H0.out
   obtain ⟨e0, e1, e2, e3, e4, e5, e6, e7⟩ := four_of hR
   have HEE : Hid (erases els = kk) := mkHid (by rw [HER.out, List.take_length])
   have HP3 := mkHid ((hbel.block P (by omega)).trans H1.out)
   have HR := mkHid hR
   clear hbel hR
   go_wp2
   have hR2 : (wr.setCell ⟨P, 3, none⟩ (.slice sa els.length sc)).heap[P + 1]? = some (.cells #[.int .i64 0, .string ⟨#[]⟩, .int .i64 0, .slice none 0 0] 26 (0, 0)) := (Below.heap_setCell wr ⟨P, 3, none⟩ _ (P + 1) (by simp)).trans HR.out
   obtain ⟨q0, q1, q2, q3⟩ := put4_cells0 hR2 (.int .i64 k) (.string s) (.int .i64 m) (.slice sa els.length sc)
   have hg : wr.grownBy (wr.setCell ⟨P, 3, none⟩ (.slice sa els.length sc)) (some P) := ⟨rfl, rfl, rfl, by simp [World.setCell], fun q _ hq => Below.heap_setCell _ _ _ _ (fun e => hq (by rw [e]))⟩
   have hm : (A.node k s m sa sc els).mine wr w1.heap.size := ⟨HOA.out, hs, by unfold maxLen; omega⟩
   refine bodyPost_ret (v := (A.node k s m sa sc els).val) (by simp [results, Tryz.results45, go_sem, q0, q1, q2, q3, A.val]) rfl ⟨_, rfl, ?_, ?_, ?_⟩
   ·simp only [A.erase, HEE.out]
   ·exact ((hm.grown hg (fun p e => by cases e; omega)).put4 hlt _ _ _ _).mono HB.out.size
   ·have hw : w.heap.size ≤ P := Nat.le_of_eq HPS.out
    exact below_put4 ((below_step HB.out HBL.out).setCell (p := ⟨P, 3, none⟩) hw _) (Nat.le_succ_of_le hw) _ _ _ _
end Go.Proofs.YtjmjmdmnejnlbaaGreatDoor
namespace Go.Proofs.YtjmjmdmnejnlbaaGreatDoor
open Go.RowKit

/-- What an operation waits for has come up. -/
def metB (o : Oper) (L : Array Bool) : Bool := o.after.all fun e => !Region.binds .any e || L.getD e.on false
/-- Each of the operations from number k on may come up wherever the invariant holds, and leaves it. -/
def StepsI (P : Program) (ops : Array Oper) (Q : Exit → Act → World → Prop) (I : Array Bool → Act → World → Prop) (k : Nat) : Prop :=
 ∀ i, k ≤ i → i < ops.size → ∀ L a w, I L a w → i ∈ Region.ready .any ops L → wpOp P ops Q i (fun a' w' => I (L.setIfInBounds i true) a' w') a w
theorem StepsI.nil {P : Program} {ops : Array Oper} {Q : Exit → Act → World → Prop} {I : Array Bool → Act → World → Prop} {k : Nat} (h : ops.size = k) : StepsI P ops Q I k := fun i h1 h2 => by omega
theorem StepsI.cons {P : Program} {ops : Array Oper} {Q : Exit → Act → World → Prop} {I : Array Bool → Act → World → Prop} {k : Nat} {o : Oper} (ho : ops[k]? = some o)
 (h : ∀ L a w, I L a w → L.getD k true = false → metB o L = true → ∀ K' : Act → World → Prop, Shut (∀ a w, I (L.setIfInBounds k true) a w → K' a w) → if Region.wanted o (yielded ops a.tmps) = true then Oper.wp P o a w K' Q else K' (a.put o.dst undef) w)
 (hs : StepsI P ops Q I (k + 1)) : StepsI P ops Q I k := fun i h1 h2 L a w hI hr => by
 by_cases e : i = k
 ·subst e
  obtain ⟨hL, o', ho', hall⟩ := mem_ready.1 hr
  obtain rfl : o = o' := Option.some.inj (ho.symm.trans ho')
  refine wpOp_step ho fun K' hK => h L a w hI hL ?_ K' hK
  unfold metB
  rw [Array.all_eq_true']
  intro e he
  cases hb : Region.binds .any e
  ·rfl
  ·rw [hall e he hb]; rfl
 ·exact hs i (by omega) h2 L a w hI hr
/-- How many have not come up. -/
def left (n : Nat) (L : Array Bool) : Nat := ((List.range n).filter fun i => !L.getD i true).length
/-- The blocks of a tree. -/
def A.blocks : A → List Nat
 | .node _ _ _ a c kk => (Value.slice a kk.length c).ownBlock.toList ++ feet kk
theorem A.mine.lt {w : World} {B : Nat} {x : A} (h : x.mine w B) {q : Nat} (hq : q ∈ x.blocks) : B ≤ q ∧ q < w.heap.size := by
 obtain ⟨k, s, m, a, c, kk⟩ := x
 rcases List.mem_append.1 hq with hq | hq
 ·exact h.1.own.lt q (by simpa using hq)
 ·exact ⟨h.1.new.2 q hq, SitsL.lt h.1.sits q hq⟩
theorem A.mine.kept {w w' : World} {B p : Nat} {x : A} (h : x.mine w B) (hg : w.grownBy w' (some p)) (hp : p ∉ x.blocks) : x.mine w' B := by
 obtain ⟨k, s, m, a, c, kk⟩ := x
 have lt := SitsL.lt h.1.sits
 simp only [A.blocks, List.mem_append, not_or] at hp
 refine ⟨⟨h.1.own.kept hg ?_, h.1.sits.stay fun q hq => hg.block q (lt q hq) fun e => ?_, h.1.new, h.1.apart⟩, h.2⟩
 ·exact .inr fun e => hp.1 (by rw [e]; simp)
 ·cases e; exact hp.2 hq
theorem A.mine.foot {w : World} {B : Nat} {x : A} (h : x.mine w B) {q : Nat} (hq : q ∈ x.foot) : q ∈ x.blocks := by
 obtain ⟨k, s, m, a, c, kk⟩ := x
 simp only [A.foot] at hq
 rcases List.mem_append.1 hq with hq | hq
 ·refine List.mem_append.2 (.inl ?_)
  rcases h.1.own.2 with ⟨e, h0⟩ | ⟨g, cap, cur, e, _⟩
  ·rw [if_pos h0] at hq; cases hq
  ·rw [e]
   simp at e
   rw [e.1] at hq
   split at hq
   ·cases hq
   ·simpa [blockOf, Value.ownBlock] using hq
 ·exact List.mem_append.2 (.inr hq)
theorem heap_lt' {w : World} {b : Nat} {o : Obj} (h : w.heap[b]? = some o) : b < w.heap.size := (Array.getElem?_eq_some_iff.1 h).1
end Go.Proofs.YtjmjmdmnejnlbaaGreatDoor
namespace Go.Proofs.YtjmjmdmnejnlbaaGreatDoor
open Go.RowKit

/-- Bytes that a slice holds. -/
def Bytes (w : World) (cb : Nat) (a : Option Addr) (n : Nat) : Prop := n = 0 ∨ ∃ b off, a = some ⟨b, off, none⟩ ∧ b < cb ∧ ∀ i, i < n → ∃ z : Int, 0 ≤ z ∧ z ≤ 255 ∧ w.cell? ⟨b, off + i, none⟩ = some (.int .u8 z)
def Cur (w : World) (cb : Nat) (a : Option Addr) (n cap bud : Nat) : Prop := ∃ (x : Nat) (seed : Int), w.heap[cb]? = some (.cells #[.slice a n cap, .int .i64 x, .int .i64 seed] 63 (0, 0)) ∧ x + 2 * bud ≤ 1000000 ∧ 0 ≤ seed ∧ seed ≤ 65521 ∧ n ≤ 1048576 ∧ Bytes w cb a n

theorem Bytes.grown {w w' : World} {cb n : Nat} {a : Option Addr} (h : Bytes w cb a n) (hg : w.grownBy w' (some cb)) : Bytes w' cb a n := by
 rcases h with h | ⟨b, off, e, hne, hc⟩
 ·exact .inl h
 ·refine .inr ⟨b, off, e, hne, fun i hi => ?_⟩
  obtain ⟨z, h0, h1, h2⟩ := hc i hi
  exact ⟨z, h0, h1, hg.cell h2 (by simp; omega)⟩
theorem grown_set (w : World) (cb i : Nat) (v : Value) : w.grownBy (w.setCell ⟨cb, i, none⟩ v) (some cb) :=
 ⟨rfl, rfl, rfl, by simp [World.setCell], fun k _ hk => Below.heap_setCell _ _ _ _ (fun e => hk (by simp [e]))⟩
theorem grown_drew (w : World) (k : Nat) (r : Option Nat) : w.grownBy (w.drewN k) r := ⟨rfl, rfl, rfl, Nat.le_refl _, fun _ _ _ => rfl⟩
theorem set1 {w : World} {cb : Nat} {A B C v : Value} (h : w.heap[cb]? = some (.cells #[A, B, C] 63 (0, 0))) : (w.setCell ⟨cb, 1, none⟩ v).heap[cb]? = some (.cells #[A, v, C] 63 (0, 0)) := heap_setCell_same w cb 1 _ 63 v h
theorem set2 {w : World} {cb : Nat} {A B C v : Value} (h : w.heap[cb]? = some (.cells #[A, B, C] 63 (0, 0))) : (w.setCell ⟨cb, 2, none⟩ v).heap[cb]? = some (.cells #[A, B, v] 63 (0, 0)) := heap_setCell_same w cb 2 _ 63 v h
theorem cur_one {w w' : World} {cb n cap bud x : Nat} {a : Option Addr} {seed' : Int} (hh : w'.heap[cb]? = some (.cells #[.slice a n cap, .int .i64 ((x : Int) + 1), .int .i64 seed'] 63 (0, 0))) (hx : x + 2 * (bud + 1) ≤ 1000000) (h0 : 0 ≤ seed') (h1 : seed' ≤ 65521) (hn : n ≤ 1048576) (hb : Bytes w cb a n) (hg : w.grownBy w' (some cb)) : Cur w' cb a n cap bud :=
 ⟨x + 1, seed', by rw [hh]; rfl, by omega, h0, h1, hn, hb.grown hg⟩
theorem cur_two {w w' : World} {cb n cap bud x : Nat} {a : Option Addr} {seed : Int} (hh : w'.heap[cb]? = some (.cells #[.slice a n cap, .int .i64 ((x : Int) + 1 + 1), .int .i64 seed] 63 (0, 0))) (hx : x + 2 * (bud + 1) ≤ 1000000) (h0 : 0 ≤ seed) (h1 : seed ≤ 65521) (hn : n ≤ 1048576) (hb : Bytes w cb a n) (hg : w.grownBy w' (some cb)) : Cur w' cb a n cap bud :=
 ⟨x + 2, seed, by rw [hh]; rfl, by omega, h0, h1, hn, hb.grown hg⟩

set_option maxHeartbeats 2000000 in
theorem pick_any (m : Int) (cb n cap bud : Nat) (a : Option Addr) (w : World) (hm : m ≤ 1000000) (hC : Cur w cb a n cap (bud + 1)) :
    Calls Tryz.prog 38 #[.pointer (some ⟨cb, 0, none⟩), .int .i64 m] w fun e w' => ∃ r : Int, e = .returned (.int .i64 r) ∧ 0 ≤ r ∧ (r < m ∨ r = 0) ∧ Cur w' cb a n cap bud ∧ w.grownBy w' (some cb) := by
 obtain ⟨x, seed, hh, hx1, hs0, hs1, hn, hby⟩ := hC
 have c0 : w.cell? ⟨cb, 0, none⟩ = some (.slice a n cap) := by rw [Lib.cell_of_heap hh]; rfl
 have c1 : w.cell? ⟨cb, 1, none⟩ = some (.int .i64 x) := by rw [Lib.cell_of_heap hh]; rfl
 have c2 : w.cell? ⟨cb, 2, none⟩ = some (.int .i64 seed) := by rw [Lib.cell_of_heap hh]; rfl
 have f1 := Lib.frozen_of_heap hh 1
 have f2 := Lib.frozen_of_heap hh 2
 have HH := mkHid hh
 have HY := mkHid hby
 clear hh hby
 by_cases h2 : m < 2
 ·go_enter Tryz.func38, Tryz.ntmps38
  go_wp2
  go_ret
  exact ⟨0, rfl, by omega, .inr rfl, ⟨x, seed, HH.out, by omega, hs0, hs1, hn, HY.out⟩, ⟨rfl, rfl, rfl, Nat.le_refl _, fun _ _ _ => rfl⟩⟩
 ·by_cases hin : (x : Int) < (n : Int)
  ·obtain ⟨b, off, rfl, hbc, hb⟩ := HY.out.resolve_left (by omega)
   obtain ⟨z, hz0, hz1, hz⟩ := hb x (by omega)
   by_cases h200 : 200 < m ∧ (x : Int) + 1 < (n : Int)
   ·obtain ⟨h20, h21⟩ := h200
    obtain ⟨z2, hz20, hz21, hz2⟩ := hb (x + 1) (by omega)
    have hd : decide (200 < m) = true := by simpa using h20
    have hd2 : decide ((x : Int) + 1 < (n : Int)) = true := by simpa using h21
    have e0 : ∀ K, ((w.drewN K).setCell ⟨cb, 1, none⟩ (.int .i64 ((x : Int) + 1))).cell? ⟨cb, 0, none⟩ = some (.slice (some ⟨b, off, none⟩) n cap) := fun K => by rw [Lib.cell_of_heap (set1 (w := w.drewN K) HH.out)]; rfl
    have e1 : ∀ K, ((w.drewN K).setCell ⟨cb, 1, none⟩ (.int .i64 ((x : Int) + 1))).cell? ⟨cb, 1, none⟩ = some (.int .i64 ((x : Int) + 1)) := fun K => by rw [Lib.cell_of_heap (set1 (w := w.drewN K) HH.out)]; rfl
    have e2 : ∀ K, ((w.drewN K).setCell ⟨cb, 1, none⟩ (.int .i64 ((x : Int) + 1))).cell? ⟨b, off + (x + 1), none⟩ = some (.int .u8 z2) := fun K => (grown_set (w.drewN K) cb 1 _).cell hz2 (by simp; omega)
    have e3 : ∀ K, ((w.drewN K).setCell ⟨cb, 1, none⟩ (.int .i64 ((x : Int) + 1))).frozen? ⟨cb, 1, none⟩ = false := fun K => Lib.frozen_of_heap (set1 (w := w.drewN K) HH.out) 1
    go_enter Tryz.func38, Tryz.ntmps38
    go_wp2
    go_quiet (fail)
    go_wp2
    go_quiet (fail)
    go_wp2
    go_quiet (fail)
    go_wp2
    go_quiet (fail)
    go_wp2
    go_ret
    refine ⟨_, rfl, Int.emod_nonneg _ (by omega), .inl (Int.emod_lt_of_pos _ (by omega)), ?_, ?_⟩
    ·exact cur_two (seed := seed) (set1 (w := ((w.drewN _).setCell ⟨cb, 1, none⟩ (.int .i64 ((x : Int) + 1))).drewN _) (set1 (w := w.drewN _) HH.out)) hx1 hs0 hs1 hn HY.out (grown_trans (grown_trans (grown_drew _ _ _) (grown_set _ _ _ _)) (grown_trans (grown_drew _ _ _) (grown_set _ _ _ _)))
    ·exact grown_trans (grown_trans (grown_drew _ _ _) (grown_set _ _ _ _)) (grown_trans (grown_drew _ _ _) (grown_set _ _ _ _))
   ·by_cases h20 : 200 < m
    ·have hd : decide (200 < m) = true := by simpa using h20
     have hd2 : decide ((x : Int) + 1 < (n : Int)) = false := by simp; omega
     clear h200
     go_enter Tryz.func38, Tryz.ntmps38
     go_wp2
     go_quiet (fail)
     go_wp2
     go_quiet (fail)
     go_wp2
     go_quiet (fail)
     go_wp2
     go_ret
     refine ⟨_, rfl, Int.emod_nonneg _ (by omega), .inl (Int.emod_lt_of_pos _ (by omega)), ?_, ?_⟩
     ·exact cur_one (seed' := seed) (set1 (w := w.drewN _) HH.out) hx1 hs0 hs1 hn HY.out (grown_trans (grown_drew _ _ _) (grown_set _ _ _ _))
     ·exact grown_trans (grown_drew _ _ _) (grown_set _ _ _ _)
    ·have hd : decide (200 < m) = false := by simp; omega
     clear h200
     go_enter Tryz.func38, Tryz.ntmps38
     go_wp2
     go_quiet (fail)
     go_wp2
     go_quiet (fail)
     go_wp2
     go_quiet (fail)
     go_wp2
     go_ret
     refine ⟨_, rfl, Int.emod_nonneg _ (by omega), .inl (Int.emod_lt_of_pos _ (by omega)), ?_, ?_⟩
     ·exact cur_one (seed' := seed) (set1 (w := w.drewN _) HH.out) hx1 hs0 hs1 hn HY.out (grown_trans (grown_drew _ _ _) (grown_set _ _ _ _))
     ·exact grown_trans (grown_drew _ _ _) (grown_set _ _ _ _)
  ·by_cases hn0 : 0 < (n : Int)
   ·obtain ⟨b, off, rfl, hbc, hb⟩ := HY.out.resolve_left (by omega)
    obtain ⟨z, hz0, hz1, hz⟩ := hb (x % n) (Nat.mod_lt _ (by omega))
    have s0 : 0 ≤ (seed * 1103 + 12345) % 65521 ∧ (seed * 1103 + 12345) % 65521 ≤ 65521 := by omega
    obtain ⟨s0, s1⟩ := s0
    have e0 : ∀ K v, ((w.drewN K).setCell ⟨cb, 2, none⟩ v).cell? ⟨cb, 0, none⟩ = some (.slice (some ⟨b, off, none⟩) n cap) := fun K v => by rw [Lib.cell_of_heap (set2 (w := w.drewN K) HH.out)]; rfl
    have e1 : ∀ K v, ((w.drewN K).setCell ⟨cb, 2, none⟩ v).cell? ⟨cb, 1, none⟩ = some (.int .i64 (x : Int)) := fun K v => by rw [Lib.cell_of_heap (set2 (w := w.drewN K) HH.out)]; rfl
    have e4 : ∀ K v, ((w.drewN K).setCell ⟨cb, 2, none⟩ v).cell? ⟨cb, 2, none⟩ = some v := fun K v => by rw [Lib.cell_of_heap (set2 (w := w.drewN K) HH.out)]; rfl
    have e2 : ∀ K v, ((w.drewN K).setCell ⟨cb, 2, none⟩ v).cell? ⟨b, off + x % n, none⟩ = some (.int .u8 z) := fun K v => (grown_set (w.drewN K) cb 2 _).cell hz (by simp; omega)
    have e3 : ∀ K v, ((w.drewN K).setCell ⟨cb, 2, none⟩ v).frozen? ⟨cb, 1, none⟩ = false := fun K v => Lib.frozen_of_heap (set2 (w := w.drewN K) HH.out) 1
    have hmod0 : (0 : Int) ≤ (x : Int) % (n : Int) := by omega
    have hmod1 : (x : Int) % (n : Int) < (n : Int) := Int.emod_lt_of_pos _ hn0
    go_enter Tryz.func38, Tryz.ntmps38
    go_wp2
    go_quiet (fail)
    go_wp2
    go_quiet (fail)
    go_wp2
    go_ret
    refine ⟨_, rfl, Int.emod_nonneg _ (by omega), .inl (Int.emod_lt_of_pos _ (by omega)), ?_, ?_⟩
    ·exact cur_one (seed' := (seed * 1103 + 12345) % 65521) (set1 (w := ((w.drewN _).setCell ⟨cb, 2, none⟩ (.int .i64 ((seed * 1103 + 12345) % 65521))).drewN _) (set2 (w := w.drewN _) HH.out)) hx1 s0 s1 hn HY.out (grown_trans (grown_trans (grown_drew _ _ _) (grown_set _ _ _ _)) (grown_trans (grown_drew _ _ _) (grown_set _ _ _ _)))
    ·exact grown_trans (grown_trans (grown_drew _ _ _) (grown_set _ _ _ _)) (grown_trans (grown_drew _ _ _) (grown_set _ _ _ _))
   ·go_enter Tryz.func38, Tryz.ntmps38
    go_wp2
    go_quiet (fail)
    go_wp2
    go_ret
    have s0 : 0 ≤ (seed * 1103 + 12345) % 65521 ∧ (seed * 1103 + 12345) % 65521 ≤ 65521 := by omega
    refine ⟨0, rfl, by omega, .inr rfl, ?_, ?_⟩
    ·exact cur_one (seed' := (seed * 1103 + 12345) % 65521) (set1 (set2 (w := w.drewN _) HH.out)) hx1 s0.1 s0.2 hn HY.out (grown_trans (grown_drew _ _ _) (grown_trans (grown_set _ _ _ _) (grown_set _ _ _ _)))
    ·exact grown_trans (grown_drew _ _ _) (grown_trans (grown_set _ _ _ _) (grown_set _ _ _ _))

set_option maxHeartbeats 400000 in
theorem open_any (n cap : Nat) (a : Option Addr) (w : World) (hn : n ≤ 1048576) (hb : Bytes w w.heap.size a n) :
    Calls Tryz.prog 13 #[.slice a n cap] w fun e w' => e = .returned (.pointer (some ⟨w.heap.size, 0, none⟩)) ∧ Cur w' w.heap.size a n cap 499999 ∧ Below w.heap.size w w' := by
 have HB := mkHid hb
 clear hb
 go_enter Tryz.func13, Tryz.ntmps13
 go_wp2
 go_ret
 have hg : w.grownBy (w.alloc (.cells #[.slice a n cap, .int .i64 0, .int .i64 (7 + (n : Int) % 1000)] 63)) (some w.heap.size) := World.grownBy_alloc w _ _
 exact ⟨rfl, ⟨0, 7 + (n : Int) % 1000, heap_alloc_new w _, by omega, by omega, by omega, hn, HB.out.grown hg⟩, (Below.refl _ _).alloc (Nat.le_refl _) _⟩
end Go.Proofs.YtjmjmdmnejnlbaaGreatDoor
namespace Go.Proofs.YtjmjmdmnejnlbaaGreatDoor
open Go.RowKit
open Pl
theorem Cur.lt {w : World} {cb n cap bud : Nat} {a : Option Addr} (h : Cur w cb a n cap bud) : cb < w.heap.size := by
 obtain ⟨x, seed, hh, _⟩ := h
 exact (Array.getElem?_eq_some_iff.1 hh).1
theorem Cur.below {w w' : World} {cb n cap bud : Nat} {a : Option Addr} (h : Cur w cb a n cap bud) (hb : Below w.heap.size w w') : Cur w' cb a n cap bud := by
 have hlt := h.lt
 obtain ⟨x, seed, hh, h1, h2, h3, h4, hby⟩ := h
 refine ⟨x, seed, (hb.block cb hlt).trans hh, h1, h2, h3, h4, ?_⟩
 rcases hby with h | ⟨b, off, e, hbl, hc⟩
 ·exact .inl h
 ·refine .inr ⟨b, off, e, hbl, fun i hi => ?_⟩
  obtain ⟨z, z0, z1, hz⟩ := hc i hi
  exact ⟨z, z0, z1, (hb.cell (p := ⟨b, off + i, none⟩) (by show b < _; omega)).trans hz⟩
theorem Cur.less {w : World} {cb n cap bud bud' : Nat} {a : Option Addr} (h : Cur w cb a n cap bud) (hb : bud' ≤ bud) : Cur w cb a n cap bud' := by
 obtain ⟨x, seed, hh, h1, h2⟩ := h
 exact ⟨x, seed, hh, by omega, h2⟩
theorem below_one (w : World) (o : Obj) : Below w.heap.size w (w.alloc o) := (Below.refl _ _).alloc (Nat.le_refl _) o
theorem Cur.alloc {w : World} {cb n cap bud : Nat} {a : Option Addr} (h : Cur w cb a n cap bud) (o : Obj) : Cur (w.alloc o) cb a n cap bud := h.below (below_one w o)
theorem grown_cell {w w' : World} {cb b i : Nat} (hg : w.grownBy w' (some cb)) (hb : b < w.heap.size) (hne : b ≠ cb) : w'.cell? ⟨b, i, none⟩ = w.cell? ⟨b, i, none⟩ :=
 World.cell?_of_block (w := w) (hg.block b hb (fun e => hne (Option.some.inj e)))

theorem once_any (m : Int) (cb n cap bud : Nat) (a : Option Addr) (w : World) (hm0 : 2 ≤ m) (hm : m ≤ 1000000) (hC : Cur w cb a n cap (bud + 1)) :
    Calls Tryz.prog 16 #[.pointer (some ⟨cb, 0, none⟩), .int .i64 m] w fun e w' => ∃ r : Bool, e = .returned (.bool r) ∧ Cur w' cb a n cap bud ∧ w.grownBy w' (some cb) := by
 have HC := mkHid hC
 have hw : IntKind.i64.wrap (m - 1) = m - 1 := IntWalk.i64_in _ (by omega)
 have HM := mkHid hm
 clear hC hm hm0
 go_enter Tryz.func16, Tryz.ntmps16
 go_wp2_with fail
 refine (pick_any m cb n cap bud a _ HM.out HC.out).mono ?_
 rintro e w' ⟨r, rfl, r0, r1, hC', hG'⟩
 have H1 := mkHid hC'
 have H2 := mkHid hG'
 clear hC' hG'
 go_wp2
 go_ret
 exact ⟨_, rfl, H1.out, H2.out⟩
set_option maxRecDepth 100000 in
set_option maxHeartbeats 3200000 in
theorem sDrawVar_any (cb n cap bud : Nat) (a : Option Addr) (w : World) (hC : Cur w cb a n cap (bud + 2)) :
    Calls Tryz.prog 40 #[.pointer (some ⟨cb, 0, none⟩)] w fun e w' => ∃ s : ByteArray, e = .returned (.string s) ∧ s.size ≤ 8 ∧ Cur w' cb a n cap bud ∧ w.grownBy w' (some cb) := by
 have HC := mkHid hC
 clear hC
 go_enter Tryz.func40, Tryz.ntmps40
 go_wp2_with fail
 refine (once_any 60 cb n cap (bud + 1) a _ (by omega) (by omega) HC.out).mono ?_
 rintro e w1 ⟨r, rfl, hC1, hG1⟩
 have HC1 := mkHid hC1
 have HG1 := mkHid hG1
 clear hC1 hG1 HC
 cases r
 ·go_wp2_with fail
  refine (pick_any 4 cb n cap bud a _ (by omega) (HC1.out.alloc _)).mono ?_
  rintro e w2 ⟨q, rfl, q0, q1, hC2, hG2⟩
  have HC2 := mkHid hC2
  have HG2 := mkHid hG2
  have hne : w1.heap.size ≠ cb := by have := HC1.out.lt; omega
  have HK : Hid (∀ i, w2.cell? ⟨w1.heap.size, i, none⟩ = (w1.alloc (.cells #[.string ⟨#[105]⟩, .string ⟨#[106]⟩, .string ⟨#[110]⟩, .string ⟨#[120]⟩] 9)).cell? ⟨w1.heap.size, i, none⟩) := mkHid fun i => grown_cell HG2.out (by simp) hne
  have HG := mkHid (grown_trans (grown_trans HG1.out (below_grown (below_one w1 _) (some cb))) HG2.out)
  clear hC2 hG2 HC1 HG1 HG2
  have q2 : q < 4 := by omega
  obtain ⟨m, rfl⟩ : ∃ m : Nat, q = m := ⟨q.toNat, by omega⟩
  have c0 := HK.out m
  have hm : m < 4 := by omega
  clear q1 HK
  rcases (by omega : m = 0 ∨ m = 1 ∨ m = 2 ∨ m = 3) with rfl | rfl | rfl | rfl
  all_goals
   simp [go_sem] at c0
   go_wp2
   go_ret
   exact ⟨_, rfl, by decide, HC2.out, HG.out⟩
 ·go_wp2_with fail
  refine (pick_any 3 cb n cap bud a _ (by omega) (HC1.out.alloc _)).mono ?_
  rintro e w2 ⟨q, rfl, q0, q1, hC2, hG2⟩
  have HC2 := mkHid hC2
  have HG2 := mkHid hG2
  have hne : w1.heap.size ≠ cb := by have := HC1.out.lt; omega
  have HK : Hid (∀ i, w2.cell? ⟨w1.heap.size, i, none⟩ = (w1.alloc (.cells #[.string ⟨#[97]⟩, .string ⟨#[113]⟩, .string ⟨#[122, 122]⟩] 9)).cell? ⟨w1.heap.size, i, none⟩) := mkHid fun i => grown_cell HG2.out (by simp) hne
  have HG := mkHid (grown_trans (grown_trans HG1.out (below_grown (below_one w1 _) (some cb))) HG2.out)
  clear hC2 hG2 HC1 HG1 HG2
  have q2 : q < 3 := by omega
  obtain ⟨m, rfl⟩ : ∃ m : Nat, q = m := ⟨q.toNat, by omega⟩
  have c0 := HK.out m
  have hm : m < 3 := by omega
  clear q1 HK
  rcases (by omega : m = 0 ∨ m = 1 ∨ m = 2) with rfl | rfl | rfl
  all_goals
   simp [go_sem] at c0
   go_wp2
   go_ret
   exact ⟨_, rfl, by decide, HC2.out, HG.out⟩
set_option maxRecDepth 100000 in
set_option maxHeartbeats 3200000 in
theorem sDrawArr_any (cb n cap bud : Nat) (a : Option Addr) (w : World) (hC : Cur w cb a n cap (bud + 2)) :
    Calls Tryz.prog 41 #[.pointer (some ⟨cb, 0, none⟩)] w fun e w' => ∃ s : ByteArray, e = .returned (.string s) ∧ s.size ≤ 8 ∧ Cur w' cb a n cap bud ∧ w.grownBy w' (some cb) := by
 have HC := mkHid hC
 clear hC
 go_enter Tryz.func41, Tryz.ntmps41
 go_wp2_with fail
 refine (once_any 60 cb n cap (bud + 1) a _ (by omega) (by omega) HC.out).mono ?_
 rintro e w1 ⟨r, rfl, hC1, hG1⟩
 have HC1 := mkHid hC1
 have HG1 := mkHid hG1
 clear hC1 hG1 HC
 cases r
 ·go_wp2_with fail
  refine (pick_any 2 cb n cap bud a _ (by omega) (HC1.out.alloc _)).mono ?_
  rintro e w2 ⟨q, rfl, q0, q1, hC2, hG2⟩
  have HC2 := mkHid hC2
  have HG2 := mkHid hG2
  have hne : w1.heap.size ≠ cb := by have := HC1.out.lt; omega
  have HK : Hid (∀ i, w2.cell? ⟨w1.heap.size, i, none⟩ = (w1.alloc (.cells #[.string ⟨#[97]⟩, .string ⟨#[98]⟩] 9)).cell? ⟨w1.heap.size, i, none⟩) := mkHid fun i => grown_cell HG2.out (by simp) hne
  have HG := mkHid (grown_trans (grown_trans HG1.out (below_grown (below_one w1 _) (some cb))) HG2.out)
  clear hC2 hG2 HC1 HG1 HG2
  have q2 : q < 2 := by omega
  obtain ⟨m, rfl⟩ : ∃ m : Nat, q = m := ⟨q.toNat, by omega⟩
  have c0 := HK.out m
  have hm : m < 2 := by omega
  clear q1 HK
  rcases (by omega : m = 0 ∨ m = 1) with rfl | rfl
  all_goals
   simp [go_sem] at c0
   go_wp2
   go_ret
   exact ⟨_, rfl, by decide, HC2.out, HG.out⟩
 ·go_wp2_with fail
  refine (pick_any 2 cb n cap bud a _ (by omega) (HC1.out.alloc _)).mono ?_
  rintro e w2 ⟨q, rfl, q0, q1, hC2, hG2⟩
  have HC2 := mkHid hC2
  have HG2 := mkHid hG2
  have hne : w1.heap.size ≠ cb := by have := HC1.out.lt; omega
  have HK : Hid (∀ i, w2.cell? ⟨w1.heap.size, i, none⟩ = (w1.alloc (.cells #[.string ⟨#[105]⟩, .string ⟨#[113]⟩] 9)).cell? ⟨w1.heap.size, i, none⟩) := mkHid fun i => grown_cell HG2.out (by simp) hne
  have HG := mkHid (grown_trans (grown_trans HG1.out (below_grown (below_one w1 _) (some cb))) HG2.out)
  clear hC2 hG2 HC1 HG1 HG2
  have q2 : q < 2 := by omega
  obtain ⟨m, rfl⟩ : ∃ m : Nat, q = m := ⟨q.toNat, by omega⟩
  have c0 := HK.out m
  have hm : m < 2 := by omega
  clear q1 HK
  rcases (by omega : m = 0 ∨ m = 1) with rfl | rfl
  all_goals
   simp [go_sem] at c0
   go_wp2
   go_ret
   exact ⟨_, rfl, by decide, HC2.out, HG.out⟩
end Go.Proofs.YtjmjmdmnejnlbaaGreatDoor
namespace Go.Proofs.YtjmjmdmnejnlbaaGreatDoor
open Go.RowKit
open Pl
set_option maxHeartbeats 800000 in
theorem sNum_any (m : Int) (w : World) (h : 0 ≤ m) : Calls Tryz.prog 37 #[.int .i64 m] w fun e w' => e = .returned (A.node 1 ⟨#[]⟩ m none 0 []).val ∧ Below w.heap.size w w' := by
 have hd : decide (m < 0) = false := by simp; omega
 go_enter Tryz.func37, Tryz.ntmps37
 go_wp2
 exact bodyPost_ret (v := (A.node 1 ⟨#[]⟩ m none 0 []).val) (by simp [results, Tryz.results37, go_sem, A.val]) rfl ⟨rfl, (Below.refl _ _).alloc (Nat.le_refl _) _⟩
theorem sits_one {w : World} {x : A} (h : Sits w x) : SitsL w [x] := ⟨h, trivial⟩
theorem one_mine (k : Int) (x : A) (w : World) (B : Nat) (hx : x.mine w B) (hB : B ≤ w.heap.size) : Calls Tryz.prog 42 #[.int .i64 k, x.val] w fun e w' =>
    ∃ b c, e = .returned (A.node k ⟨#[]⟩ 0 (some ⟨b, 0, none⟩) c [x]).val ∧ (A.node k ⟨#[]⟩ 0 (some ⟨b, 0, none⟩) c [x]).mine w' B ∧ Below w.heap.size w w' := by
 refine (one_new k x w).mono ?_
 rintro e w' ⟨b, rfl, hb, hge, hbl⟩
 exact ⟨b, 1, rfl, made_mine (xs := [x]) (sits_one hx.tree.1) hbl hb hge (NewL.one hx.tree.2.1) hB (by decide) (by simp [maxLen]), hbl⟩
theorem two_mine (k : Int) (x y : A) (w : World) (B n1 : Nat) (hx : x.mine w B) (hlt : ∀ b ∈ x.foot, b < n1) (hy : y.mine w n1) (hBn : B ≤ n1) (hn : n1 ≤ w.heap.size) : Calls Tryz.prog 44 #[.int .i64 k, x.val, y.val] w fun e w' =>
    ∃ b c, e = .returned (A.node k ⟨#[]⟩ 0 (some ⟨b, 0, none⟩) c [x, y]).val ∧ (A.node k ⟨#[]⟩ 0 (some ⟨b, 0, none⟩) c [x, y]).mine w' B ∧ Below w.heap.size w w' := by
 refine (two_new k x y w).mono ?_
 rintro e w' ⟨b, rfl, hb, hge, hbl⟩
 refine ⟨b, 2, rfl, made_mine (xs := [x, y]) ⟨hx.tree.1, hy.tree.1, trivial⟩ hbl hb hge ?_ (Nat.le_trans hBn hn) (by decide) (by simp [maxLen]), hbl⟩
 exact NewL.snoc (xs := [x]) (NewL.one hx.tree.2.1) (fun b hb => hlt b (by simpa [feet] using hb)) hy.tree.2.1 hBn
theorem leaf_foot (k m : Int) (s : ByteArray) (n : Nat) : ∀ b ∈ (A.node k s m none 0 []).foot, b < n := by
 intro b hb; simp [A.foot, feet] at hb
/-- A tree of one's own is answered; the cursor went on. -/
def DPost (cb n cap bud K : Nat) (a : Option Addr) (w : World) (e : Ending) (w' : World) : Prop := ∃ x : A, e = .returned x.val ∧ x.mine w' w.heap.size ∧ cnt x.erase ≤ K ∧ Cur w' cb a n cap bud ∧ w.grownBy w' (some cb)
theorem grown_put4 {w v : World} {cb P : Nat} (h : w.grownBy v (some cb)) (hP : w.heap.size ≤ P) (v0 v1 v2 v3 : Value) : w.grownBy (put4 v P v0 v1 v2 v3) (some cb) :=
 ⟨h.os, h.tape, h.output, Nat.le_trans h.size (by rw [put4_size]; exact Nat.le_refl _), fun q hq hne => (put4_other _ _ _ _ (by omega)).trans (h.block q hq hne)⟩
theorem Cur.put4 {w : World} {cb n cap bud P : Nat} {a : Option Addr} (h : Cur w cb a n cap bud) (hP : cb < P) (v0 v1 v2 v3 : Value) : Cur (put4 w P v0 v1 v2 v3) cb a n cap bud := by
 obtain ⟨x, seed, hh, h1, h2, h3, h4, hby⟩ := h
 refine ⟨x, seed, (put4_other _ _ _ _ (by omega)).trans hh, h1, h2, h3, h4, ?_⟩
 rcases hby with h | ⟨b, off, e, hbl, hc⟩
 ·exact .inl h
 ·refine .inr ⟨b, off, e, hbl, fun i hi => ?_⟩
  obtain ⟨z, z0, z1, hz⟩ := hc i hi
  exact ⟨z, z0, z1, (World.cell?_of_block (w := w) (put4_other _ _ _ _ (by show b ≠ P; omega))).trans hz⟩
end Go.Proofs.YtjmjmdmnejnlbaaGreatDoor
