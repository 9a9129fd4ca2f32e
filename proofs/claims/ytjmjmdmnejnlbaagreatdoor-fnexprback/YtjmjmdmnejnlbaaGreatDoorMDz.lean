/-
  A COPY THAT IS BEING SPOILT: a tree of one's own in a box; a list with one tree replaced.
  A COPY THAT IS BEING SPOILT: a leaf more, a tree around it.
-/
import Derived.Test.YtjmjmdmnejnlbaaGreatDoorMDq
namespace Go.Proofs.YtjmjmdmnejnlbaaGreatDoor
open Go.RowKit
open Pl
theorem cellsL_set : ∀ {els : List A} {k : Nat}, k < els.length → ∀ (zk zm : Int) (zs : ByteArray) (za : Option Addr) (zc : Nat) (zkk : List A),
    ((((cellsL els).set (k * 4) (.int .i64 zk)).set (k * 4 + 1) (.string zs)).set (k * 4 + 2) (.int .i64 zm)).set (k * 4 + 3) (.slice za zkk.length zc) = cellsL (els.set k (.node zk zs zm za zc zkk))
 | [], _, h => by simp at h
 | x :: r, 0, _ => fun zk zm zs za zc zkk => by obtain ⟨a, b, c, d, e, f⟩ := x; rfl
 | x :: r, k + 1, h => fun zk zm zs za zc zkk => by
   obtain ⟨a, b, c, d, e, f⟩ := x
   have ih := cellsL_set (els := r) (k := k) (by simpa using h) zk zm zs za zc zkk
   have e4 : (k + 1) * 4 = k * 4 + 1 + 1 + 1 + 1 := by omega
   rw [e4]
   show (.int .i64 a) :: (.string b) :: (.int .i64 c) :: (.slice d f.length e) :: (((((cellsL r).set (k * 4) (.int .i64 zk)).set (k * 4 + 1) (.string zs)).set (k * 4 + 2) (.int .i64 zm)).set (k * 4 + 3) (.slice za zkk.length zc)) = (.int .i64 a) :: (.string b) :: (.int .i64 c) :: (.slice d f.length e) :: cellsL (r.set k _)
   rw [ih]
@[reducible] def putR (w : World) (g i : Nat) (v0 v1 v2 v3 : Value) : World := (((w.setCell ⟨g, i, none⟩ v0).setCell ⟨g, i + 1, none⟩ v1).setCell ⟨g, i + 2, none⟩ v2).setCell ⟨g, i + 3, none⟩ v3
theorem putR_grown (w : World) (g i : Nat) (v0 v1 v2 v3 : Value) : w.grownBy (putR w g i v0 v1 v2 v3) (some g) :=
 grown_trans (grown_trans (grown_set w g i v0) (grown_set _ g (i + 1) v1)) (grown_trans (grown_set _ g (i + 2) v2) (grown_set _ g (i + 3) v3))
theorem feet_set {els : List A} {k : Nat} {z : A} : ∀ b, b ∈ feet (els.set k z) → b ∈ feet els ∨ b ∈ z.foot := fun b hb => by
 obtain ⟨y, hy, hf⟩ := feet_mem.1 hb
 rcases List.mem_or_eq_of_mem_set hy with h | h
 ·exact .inl (feet_mem.2 ⟨y, h, hf⟩)
 ·exact .inr (h ▸ hf)
/-- One tree of a list replaced by a younger one. -/
theorem OwnA.swap {v : World} {B g c k M : Nat} {els : List A} {zk zm : Int} {zs : ByteArray} {za : Option Addr} {zc : Nat} {zkk : List A} (h : OwnA v B (.slice (some ⟨g, 0, none⟩) els.length c) els)
 (hz : (A.node zk zs zm za zc zkk).mine v M) (hN : ∀ b ∈ feet els, b < M) (hgN : g < M) (hBN : B ≤ M) (hk : k < els.length) :
 OwnA (putR v g (k * 4) (.int .i64 zk) (.string zs) (.int .i64 zm) (.slice za zkk.length zc)) B (.slice (some ⟨g, 0, none⟩) (els.set k (.node zk zs zm za zc zkk)).length c) (els.set k (.node zk zs zm za zc zkk)) := by
 have hl : (els.set k (A.node zk zs zm za zc zkk)).length = els.length := by simp
 have hg := putR_grown v g (k * 4) (.int .i64 zk) (.string zs) (.int .i64 zm) (.slice za zkk.length zc)
 have ht := hz.tree
 have hne : ∀ q ∈ feet els, q ≠ g := fun q hq e => h.apart g rfl (e ▸ hq)
 have hnz : ∀ q ∈ (A.node zk zs zm za zc zkk).foot, q ≠ g := fun q hq e => by have := ht.2.1.2 q hq; omega
 have lt := SitsL.lt h.sits
 have ltz := Sits.lt _ ht.1
 refine ⟨?_, ?_, ?_, ?_⟩
 ·rw [hl, ← cellsL_set hk]
  have s0 := (h.own.stored (k * 4) (.int .i64 zk)).1
  have s1 := (World.ownsRow.stored s0 (k * 4 + 1) (.string zs)).1
  have s2 := (World.ownsRow.stored s1 (k * 4 + 2) (.int .i64 zm)).1
  exact (World.ownsRow.stored s2 (k * 4 + 3) (.slice za zkk.length zc)).1
 ·refine (sitsL_iff _ _).2 fun y hy => ?_
  rcases List.mem_or_eq_of_mem_set hy with hy | rfl
  ·exact Sits.stay y (fun b hb => hg.block b (lt b (feet_mem.2 ⟨y, hy, hb⟩)) (fun e => hne b (feet_mem.2 ⟨y, hy, hb⟩) (Option.some.inj e))) ((sitsL_iff _ _).1 h.sits y hy)
  ·exact Sits.stay _ (fun b hb => hg.block b (ltz b hb) (fun e => hnz b hb (Option.some.inj e))) ht.1
 ·have e : els.set k (A.node zk zs zm za zc zkk) = els.take k ++ ([A.node zk zs zm za zc zkk] ++ els.drop (k + 1)) := by rw [List.set_eq_take_append_cons_drop, if_pos hk]; rfl
  have e0 : els = els.take k ++ ([els[k]] ++ els.drop (k + 1)) := by
   conv => lhs; rw [← List.take_append_drop k els, List.drop_eq_getElem_cons hk]
   rfl
  have hn := h.new
  unfold NewL at hn ⊢
  have hf : feet els = feet (els.take k) ++ (feet [els[k]] ++ feet (els.drop (k + 1))) := by conv => lhs; rw [e0, feet_append, feet_append]
  have m1 : ∀ q ∈ feet (els.take k), q ∈ feet els := fun q hq => by rw [hf]; exact List.mem_append.2 (.inl hq)
  have m2 : ∀ q ∈ feet (els.drop (k + 1)), q ∈ feet els := fun q hq => by rw [hf]; exact List.mem_append.2 (.inr (List.mem_append.2 (.inr hq)))
  have hnd := hn.1
  rw [hf] at hnd
  obtain ⟨n1, n2, n3⟩ := List.nodup_append.1 hnd
  obtain ⟨n4, n5, n6⟩ := List.nodup_append.1 n2
  refine ⟨?_, fun q hq => ?_⟩
  ·rw [e, feet_append, feet_append, feet_one]
   refine List.nodup_append.2 ⟨n1, List.nodup_append.2 ⟨ht.2.1.1, n5, fun p hp q hq e => ?_⟩, fun p hp q hq e => ?_⟩
   ·have := ht.2.1.2 p hp
    have := hN q (m2 q hq)
    omega
   ·rcases List.mem_append.1 hq with hq | hq
    ·have := ht.2.1.2 q hq
     have := hN p (m1 p hp)
     omega
    ·exact n3 p hp q (List.mem_append.2 (.inr hq)) e
  ·rcases feet_set q hq with hq | hq
   ·exact hn.2 q hq
   ·have := ht.2.1.2 q hq
    omega
 ·intro g' e hq
  simp [Value.ownBlock] at e
  subst e
  rcases feet_set g hq with hq | hq
  ·exact hne g hq rfl
  ·exact hnz g hq rfl
theorem erases_set {els : List A} {k : Nat} {z : A} (hk : k < els.length) : cnts (erases (els.set k z)) + cnt els[k].erase = cnts (erases els) + cnt z.erase := by
 induction els generalizing k with
 | nil => simp at hk
 | cons x r ih =>
  cases k with
  | zero => simp only [List.set_cons_zero, erases, cnts, List.getElem_cons_zero]; omega
  | succ k =>
   have := ih (k := k) (by simpa using hk)
   simp only [List.set_cons_succ, erases, cnts, List.getElem_cons_succ]
   omega
theorem copy_A (x : A) (w : World) (hS : Sits w x) (hc : cnt x.erase ≤ 1000) : Calls Tryz.prog 45 #[x.val] w (TPost x.erase w) := by
 have hk := Sits.lies (lo := 0) x hS (fun _ _ => Nat.zero_le _)
 obtain ⟨k, s, m, a, c, kk⟩ := x
 simp only [Sits] at hS
 have h := sCopy_any (.node k s m (erases kk)) hS.1 (by simp only [A.erase, cnt] at hc; omega) a c w hk
 rw [erases_len] at h
 exact h
theorem DPost.base {cb n cap bud K : Nat} {a : Option Addr} {w w0 : World} {e : Ending} {v : World} (hb : Below w.heap.size w w0) (h : DPost cb n cap bud K a w0 e v) : DPost cb n cap bud K a w e v := by
 obtain ⟨x, he, hx, hk, hC, hg⟩ := h
 exact ⟨x, he, hx.mono hb.size, hk, hC, grown_trans (below_grown hb _) hg⟩
structure Spo (w v : World) (cb n cap bud P Q : Nat) (a : Option Addr) (y : A) : Prop where
 dat : Dat w v cb n cap bud P a
 box : v.heap[Q]? = some (.cells y.cells.toArray 26 (0, 0))
 mine : y.mine v (P + 1)
 lt : P + 1 ≤ Q
 sep : ∀ q ∈ y.blocks, q ≠ Q
theorem Spo.hcP {w v : World} {cb n cap bud P Q : Nat} {a : Option Addr} {y : A} (h : Spo w v cb n cap bud P Q a y) : cb < P + 1 := by have := h.dat.hc; have := h.dat.hP; omega
theorem Spo.boxlt {w v : World} {cb n cap bud P Q : Nat} {a : Option Addr} {y : A} (h : Spo w v cb n cap bud P Q a y) : Q < v.heap.size := (Array.getElem?_eq_some_iff.1 h.box).1
theorem Spo.next {w v v' : World} {cb n cap bud bud' P Q : Nat} {a : Option Addr} {y : A} (h : Spo w v cb n cap bud P Q a y) (hC : Cur v' cb a n cap bud') (hg : v.grownBy v' (some cb)) : Spo w v' cb n cap bud' P Q a y := by
 have h1 := h.hcP
 have h2 := h.lt
 exact ⟨h.dat.next hC hg, (hg.block Q h.boxlt (fun e => by cases e; omega)).trans h.box, h.mine.grown hg (fun p e => by cases e; exact h1), h.lt, h.sep⟩
theorem Spo.below {w v v' : World} {cb n cap bud P Q : Nat} {a : Option Addr} {y : A} (h : Spo w v cb n cap bud P Q a y) (hb : Below v.heap.size v v') : Spo w v' cb n cap bud P Q a y := h.next (h.dat.cur.below hb) (below_grown hb _)
theorem Spo.less {w v : World} {cb n cap bud bud' P Q : Nat} {a : Option Addr} {y : A} (h : Spo w v cb n cap bud P Q a y) (hb : bud' ≤ bud) : Spo w v cb n cap bud' P Q a y := ⟨h.dat.less hb, h.box, h.mine, h.lt, h.sep⟩
theorem Spo.drew {w v : World} {cb n cap bud P Q : Nat} {a : Option Addr} {y : A} (h : Spo w v cb n cap bud P Q a y) : Spo w v.drew cb n cap bud P Q a y := ⟨h.dat.drew, h.box, mine_drew h.mine, h.lt, h.sep⟩
/-- A field of the box is written. -/
theorem Spo.put {w v : World} {cb n cap bud P Q : Nat} {a : Option Addr} {y z : A} (h : Spo w v cb n cap bud P Q a y) (i : Nat) (x : Value) (hb : y.cells.toArray.setIfInBounds i x = z.cells.toArray) (hm : z.mine v (P + 1)) (hs : ∀ q ∈ z.blocks, q ≠ Q) : Spo w (v.setCell ⟨Q, i, none⟩ x) cb n cap bud P Q a z :=
 ⟨h.dat.set (Q := Q) h.lt i x, by rw [← hb]; exact heap_setCell_same v Q i _ 26 x h.box, hm.kept (p := Q) (grown_set v Q i x) (fun hq => hs Q hq rfl), h.lt, hs⟩
/-- The box is made. -/
theorem Spo.start {w v : World} {cb n cap bud P : Nat} {a : Option Addr} {y : A} (h : Dat w v cb n cap bud P a) (hm : y.mine v (P + 1)) : Spo w (v.alloc (.cells y.cells.toArray 26)) cb n cap bud P v.heap.size a y :=
 ⟨h.below (below_one v _), heap_alloc_new v _, hm.below (below_one v _), h.lt, fun q hq e => by have := (hm.lt hq).2; omega⟩
/-- A tree of the list is replaced in the row. -/
theorem Spo.swap {w v v2 : World} {cb n cap bud P Q g k : Nat} {a : Option Addr} {yk ym : Int} {ys : ByteArray} {yc : Nat} {els : List A} {zk zm : Int} {zs : ByteArray} {za : Option Addr} {zc : Nat} {zkk : List A} (h0 : Spo w v cb n cap bud P Q a (.node yk ys ym (some ⟨g, 0, none⟩) yc els))
 {bud' : Nat} (hC : Cur v2 cb a n cap bud') (hg : v.grownBy v2 (some cb)) (hz : (A.node zk zs zm za zc zkk).mine v2 v.heap.size) (hk : k < els.length) :
 (putR v2 g (k * 4) (.int .i64 zk) (.string zs) (.int .i64 zm) (.slice za zkk.length zc)).heap[Q]? = some (.cells #[.int .i64 yk, .string ys, .int .i64 ym, .slice (some ⟨g, 0, none⟩) els.length yc] 26 (0, 0)) ∧ Spo w (putR v2 g (k * 4) (.int .i64 zk) (.string zs) (.int .i64 zm) (.slice za zkk.length zc)) cb n cap bud' P Q a (.node yk ys ym (some ⟨g, 0, none⟩) yc (els.set k (.node zk zs zm za zc zkk))) := by
 have h := h0.next hC hg
 have hgb : g ∈ (A.node yk ys ym (some ⟨g, 0, none⟩) yc els).blocks := by simp [A.blocks, Value.ownBlock]
 have hg1 := h0.mine.lt hgb
 have hgQ := h0.sep g hgb
 have hP : P < g := hg1.1
 have hlt := SitsL.lt h0.mine.1.sits
 have hsw := h.mine.1.swap (k := k) hz hlt hg1.2 h0.dat.lt hk
 have hbx := ((putR_grown v2 g (k * 4) (.int .i64 zk) (.string zs) (.int .i64 zm) (.slice za zkk.length zc)).block Q h.boxlt (fun e => hgQ (Option.some.inj e).symm)).trans h.box
 refine ⟨hbx, (((h.dat.set hP _ _).set hP _ _).set hP _ _).set hP _ _, ?_, ⟨hsw, h.mine.2.1, by simpa using h.mine.2.2⟩, h.lt, fun q hq => ?_⟩
 ·have e : (A.node yk ys ym (some ⟨g, 0, none⟩) yc (els.set k (.node zk zs zm za zc zkk))).cells = (A.node yk ys ym (some ⟨g, 0, none⟩) yc els).cells := by simp [A.cells]
  rw [e]
  exact hbx
 ·rcases List.mem_append.1 hq with hq | hq
  ·simp [Value.ownBlock] at hq
   subst hq; exact hgQ
  ·rcases feet_set q hq with hq | hq
   ·exact h0.sep q (List.mem_append.2 (.inr hq))
   ·have := hz.tree.2.1.2 q hq
    have := h0.boxlt
    omega
theorem one_mine2 (k : Int) (x : A) (w : World) (B : Nat) (hx : x.mine w B) (hB : B ≤ w.heap.size) : Calls Tryz.prog 42 #[.int .i64 k, x.val] w fun e w' =>
    ∃ b, e = .returned (A.node k ⟨#[]⟩ 0 (some ⟨b, 0, none⟩) 1 [x]).val ∧ w.heap.size ≤ b ∧ (A.node k ⟨#[]⟩ 0 (some ⟨b, 0, none⟩) 1 [x]).mine w' B ∧ Below w.heap.size w w' := by
 refine (one_new k x w).mono ?_
 rintro e w' ⟨b, rfl, hb, hge, hbl⟩
 exact ⟨b, rfl, hge, made_mine (xs := [x]) (sits_one hx.tree.1) hbl hb hge (NewL.one hx.tree.2.1) hB (by decide) (by simp [maxLen]), hbl⟩
end Go.Proofs.YtjmjmdmnejnlbaaGreatDoor
namespace Go.Proofs.YtjmjmdmnejnlbaaGreatDoor
open Go.RowKit
open Pl
theorem cnt_kid {els : List A} {k : Nat} (hk : k < els.length) : cnt els[k].erase ≤ cnts (erases els) := by
 induction els generalizing k with
 | nil => simp at hk
 | cons x r ih =>
  cases k with
  | zero => simp only [erases, cnts, List.getElem_cons_zero]; omega
  | succ k =>
   have := ih (k := k) (by simpa using hk)
   simp only [erases, cnts, List.getElem_cons_succ]
   omega
theorem Cur.kept {v v' : World} {cb n cap bud : Nat} {a : Option Addr} {row : Option Nat} (h : Cur v cb a n cap bud) (hg : v.grownBy v' row) (hr : ∀ p, row = some p → cb < p) : Cur v' cb a n cap bud := by
 have hlt := h.lt
 obtain ⟨y, seed, hh, h1, h2, h3, h4, hby⟩ := h
 refine ⟨y, seed, (hg.block cb hlt (fun e => by have := hr cb e.symm; omega)).trans hh, h1, h2, h3, h4, ?_⟩
 rcases hby with hb | ⟨b, off, e, hbl, hc⟩
 ·exact .inl hb
 ·refine .inr ⟨b, off, e, hbl, fun j hj => ?_⟩
  obtain ⟨z, z0, z1, hz⟩ := hc j hj
  exact ⟨z, z0, z1, (World.cell?_of_block (w := v) (a := ⟨b, off + j, none⟩) (hg.block b (by omega) (fun e => by have := hr b e.symm; omega))).trans hz⟩
theorem Dat.kept {w v v' : World} {cb n cap bud P : Nat} {a : Option Addr} {row : Option Nat} (h : Dat w v cb n cap bud P a) (hg : v.grownBy v' row) (hr : ∀ p, row = some p → P < p) : Dat w v' cb n cap bud P a := by
 have hcP : cb < P := by have := h.hc; have := h.hP; omega
 refine ⟨h.cur.kept hg (fun p e => by have := hr p e; omega), (hg.block P h.lt (fun e => by have := hr P e.symm; omega)).trans h.res, ⟨hg.os.trans h.gr.os, hg.tape.trans h.gr.tape, hg.output.trans h.gr.output, Nat.le_trans h.gr.size hg.size, fun k hk hne => ?_⟩, h.hP, h.hc⟩
 exact (hg.block k (Nat.lt_of_lt_of_le hk h.gr.size) (fun e => by have := hr k e.symm; have := h.hP; omega)).trans (h.gr.block k hk hne)
/-- A tree is appended to the list. -/
theorem Spo.push {w v u : World} {cb n cap bud P Q g c2 : Nat} {a : Option Addr} {yk ym : Int} {ys : ByteArray} {sa : Option Addr} {sc : Nat} {els : List A} {x : A} {cs : Array Value}
 (h : Spo w v cb n cap bud P Q a (.node yk ys ym sa sc els)) (hx : Sits v x) (hn : New v.heap.size x) (hl : els.length + 1 ≤ maxLen)
 (hown : u.ownsRow (P + 1) 26 4 (.slice (some ⟨g, 0, none⟩) (els.length + 1) c2) (els.length + 1) (cellsL els ++ cellsL [x])) (hgrow : (v.alloc (.cells cs 26)).grownBy u (Value.slice sa els.length sc).ownBlock)
 (hat : (Value.slice sa els.length sc).ownBlock = some g ∨ g = v.heap.size + 1) :
 u.heap[Q]? = some (.cells #[.int .i64 yk, .string ys, .int .i64 ym, .slice sa els.length sc] 26 (0, 0)) ∧ (u.setCell ⟨Q, 3, none⟩ (.slice (some ⟨g, 0, none⟩) (els.length + 1) c2)).heap[Q]? = some (.cells #[.int .i64 yk, .string ys, .int .i64 ym, .slice (some ⟨g, 0, none⟩) (els.length + 1) c2] 26 (0, 0)) ∧ Spo w (u.setCell ⟨Q, 3, none⟩ (.slice (some ⟨g, 0, none⟩) (els.length + 1) c2)) cb n cap bud P Q a (.node yk ys ym (some ⟨g, 0, none⟩) c2 (els ++ [x])) := by
 have hol := h.mine.1.own.lt
 have hbk : ∀ p, (Value.slice sa els.length sc).ownBlock = some p → p ∈ (A.node yk ys ym sa sc els).blocks := fun p e => List.mem_append.2 (.inl (by rw [e]; simp))
 have hd : Dat w u cb n cap bud P a := (h.dat.below (below_one v _)).kept hgrow (fun p e => (hol p e).1)
 have hbox : u.heap[Q]? = some (.cells #[.int .i64 yk, .string ys, .int .i64 ym, .slice sa els.length sc] 26 (0, 0)) :=
  (hgrow.block Q (by have := h.boxlt; simp; omega) (fun e => h.sep Q (hbk Q e.symm) rfl)).trans ((Lib.alloc_old v _ Q h.boxlt).trans h.box)
 have hp := h.mine.1.push (Below.refl _ _) (sitsL_one hx) (NewL.one hn) h.dat.lt hown hgrow hat rfl
 have hlen : (els ++ [x]).length = els.length + 1 := by simp
 have hs : ∀ q ∈ (A.node yk ys ym (some ⟨g, 0, none⟩) c2 (els ++ [x])).blocks, q ≠ Q := fun q hq e => by
  subst e
  rcases List.mem_append.1 hq with hq | hq
  ·simp [Value.ownBlock] at hq
   subst hq
   rcases hat with hat | hat
   ·exact h.sep q (hbk q hat) rfl
   ·have := h.boxlt; omega
  ·rw [feet_append, List.mem_append] at hq
   rcases hq with hq | hq
   ·exact h.sep q (List.mem_append.2 (.inr hq)) rfl
   ·rw [feet_one] at hq
    have := hn.2 q hq
    have := h.boxlt
    omega
 refine ⟨hbox, heap_setCell_same u Q 3 _ 26 (.slice (some ⟨g, 0, none⟩) (els.length + 1) c2) hbox, hd.set (Q := Q) h.lt 3 _, ?_, ?_, h.lt, hs⟩
 ·have e := heap_setCell_same u Q 3 _ 26 (.slice (some ⟨g, 0, none⟩) (els.length + 1) c2) hbox
  rw [e]
  simp [A.cells]
 ·exact A.mine.kept (x := .node yk ys ym (some ⟨g, 0, none⟩) c2 (els ++ [x])) (p := Q) ⟨hp, h.mine.2.1, by rw [hlen]; exact hl⟩ (grown_set u Q 3 _) (fun hq => hs Q hq rfl)
/-- A tree is put around it. -/
theorem Spo.wrap {w v u : World} {cb n cap bud P R b : Nat} {a : Option Addr} {z : A} {k : Int} (h : Spo w v cb n cap bud P R a z) (hb : Below v.heap.size v u) (hge : v.heap.size ≤ b) (hm : (A.node k ⟨#[]⟩ 0 (some ⟨b, 0, none⟩) 1 [z]).mine u (P + 1)) :
 Spo w (put4 u R (.int .i64 k) (.string ⟨#[]⟩) (.int .i64 0) (.slice (some ⟨b, 0, none⟩) 1 1)) cb n cap bud P R a (.node k ⟨#[]⟩ 0 (some ⟨b, 0, none⟩) 1 [z]) ∧ ∀ q, q ∈ (A.node k ⟨#[]⟩ 0 (some ⟨b, 0, none⟩) 1 [z]).blocks → q = b ∨ q ∈ z.blocks := by
 have hbl : ∀ q, q ∈ (A.node k ⟨#[]⟩ 0 (some ⟨b, 0, none⟩) 1 [z]).blocks → q = b ∨ q ∈ z.blocks := fun q hq => by
  rcases List.mem_append.1 hq with hq | hq
  ·simp [Value.ownBlock] at hq
   exact .inl hq
  ·rw [feet_one] at hq
   exact .inr (h.mine.foot hq)
 have hs : ∀ q ∈ (A.node k ⟨#[]⟩ 0 (some ⟨b, 0, none⟩) 1 [z]).blocks, q ≠ R := fun q hq e => by
  subst e
  rcases hbl q hq with e | hq
  ·have := h.boxlt; omega
  ·exact h.sep q hq rfl
 have h2 := h.below hb
 obtain ⟨zk, zs, zm, za, zc, zkk⟩ := z
 exact ⟨⟨h2.dat.put4 h.lt _ _ _ _, put4_at h2.box _ _ _ _, hm.kept (put4_grown u R _ _ _ _) (fun hq => hs R hq rfl), h.lt, hs⟩, hbl⟩
/-- The other box takes it over. -/
theorem Spo.over {w v : World} {cb n cap bud P R Q : Nat} {a : Option Addr} {zk zm : Int} {zs : ByteArray} {za : Option Addr} {zc : Nat} {zkk : List A} {v0 v1 v2 v3 : Value} (h : Spo w v cb n cap bud P R a (.node zk zs zm za zc zkk)) (hQ : v.heap[Q]? = some (.cells #[v0, v1, v2, v3] 26 (0, 0))) (hPQ : P + 1 ≤ Q) (hs : ∀ q ∈ (A.node zk zs zm za zc zkk).blocks, q ≠ Q) :
 Spo w (put4 v Q (.int .i64 zk) (.string zs) (.int .i64 zm) (.slice za zkk.length zc)) cb n cap bud P Q a (.node zk zs zm za zc zkk) :=
 ⟨h.dat.put4 hPQ _ _ _ _, put4_at hQ _ _ _ _, h.mine.kept (put4_grown v Q _ _ _ _) (fun hq => hs Q hq rfl), hPQ, hs⟩
end Go.Proofs.YtjmjmdmnejnlbaaGreatDoor
