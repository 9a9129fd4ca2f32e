/-
  TREES IN MEMORY THAT A COPY MADE: each list at the head of a block of its own that may be written; what stays so.
  CONTRACTS of toNode and toNodeS: the same tree in new memory; of eqNode and eqNodeS at the same trees.
  CONTRACT of toNode.
  CONTRACTS of eqNode and eqNodeS where both hold the same trees.
  LAYINGS at this program of some of the library's contracts.
  WORDS IN MEMORY: what it means that a slice holds a list of words.
  PLAIN FACTS on the words of a text: where blanks end, where a word ends, the words one by one.
-/
import Derived.Test.YtedfnadgmhjojaaGreatDoorMSize
import Derived.Shelf.Strings.Builder1
import Derived.Shelf.Small.Strs
import Derived.Shelf.Strings.BuilderF
import Derived.Shelf.Strings.BuilderK
import Derived.Shelf.Strconv.Itoa0
import Derived.Shelf.Strconv.Itoa1
import Derived.Shelf.LaysM
import Derived.Shelf.Strconv.Itoa2
import Derived.Shelf.Strconv.Itoa3
import Derived.Shelf.Strconv.Clone
import Derived.Shelf.Strings.Search1
import Derived.Test.YtedfnadgmhjojaaGreatDoorProg
namespace Go.Proofs.YtedfnadgmhjojaaGreatDoor
open Go.RowKit

mutual
/-- The four cells of a tree lie at offset off of block b; each list below it at the head of a block from lo on. -/
def Lies0 (w : World) (lo : Nat) : T → Nat → Nat → Prop
 | .node k s m kk, b, off => w.cell? ⟨b, off, none⟩ = some (.int .i64 k) ∧ w.cell? ⟨b, off + 1, none⟩ = some (.string s) ∧ w.cell? ⟨b, off + 2, none⟩ = some (.int .i64 m) ∧
   s.size ≤ maxLen ∧ kk.length ≤ maxLen ∧ ∃ (a : Option Addr) (c : Nat), w.cell? ⟨b, off + 3, none⟩ = some (.slice a kk.length c) ∧ kk.length ≤ c ∧ c ≤ maxLen ∧
   (kk = [] ∨ ∃ b', a = some ⟨b', 0, none⟩ ∧ lo ≤ b' ∧ (∀ o, w.frozen? ⟨b', o, none⟩ = false) ∧ Lies0L w lo kk b' 0)
def Lies0L (w : World) (lo : Nat) : List T → Nat → Nat → Prop
 | [], _, _ => True
 | t :: r, b, off => Lies0 w lo t b off ∧ Lies0L w lo r b (off + 4)
end
def Kids0 (w : World) (lo : Nat) (a : Option Addr) (kk : List T) : Prop := kk = [] ∨ ∃ b', a = some ⟨b', 0, none⟩ ∧ lo ≤ b' ∧ (∀ o, w.frozen? ⟨b', o, none⟩ = false) ∧ Lies0L w lo kk b' 0

theorem Lies0L.get {w : World} {lo b : Nat} : ∀ {ks : List T} {off i : Nat} {t : T}, Lies0L w lo ks b off → ks[i]? = some t → Lies0 w lo t b (off + i * 4)
 | [], _, _, _, _, h => by simp at h
 | x :: r, off, 0, t, h, ht => by
   simp at ht
   subst ht
   unfold Lies0L at h
   simpa using h.1
 | x :: r, off, i + 1, t, h, ht => by
   unfold Lies0L at h
   simp at ht
   have := Lies0L.get h.2 ht
   rwa [show off + 4 + i * 4 = off + (i + 1) * 4 by omega] at this
theorem Lies0L.of {w : World} {lo b : Nat} : ∀ {ks : List T} {off : Nat}, (∀ i t, ks[i]? = some t → Lies0 w lo t b (off + i * 4)) → Lies0L w lo ks b off
 | [], _, _ => by unfold Lies0L; trivial
 | x :: r, off, h => by
   unfold Lies0L
   refine ⟨by simpa using h 0 x rfl, Lies0L.of fun i t ht => ?_⟩
   have := h (i + 1) t (by simpa using ht)
   rwa [show off + (i + 1) * 4 = off + 4 + i * 4 by omega] at this
theorem Lies0.lt {w : World} {lo : Nat} {t : T} {b off : Nat} (h : Lies0 w lo t b off) : b < w.heap.size := by
 cases t
 unfold Lies0 at h
 exact World.block_lt_of_cell? w _ h.1
mutual
theorem Lies0.stay {w w' : World} {lo : Nat} (h : ∀ b o, lo ≤ b → b < w.heap.size → w'.cell? ⟨b, o, none⟩ = w.cell? ⟨b, o, none⟩ ∧ w'.frozen? ⟨b, o, none⟩ = w.frozen? ⟨b, o, none⟩) : ∀ (t : T) (b off : Nat), (∀ o, off ≤ o → o < off + 4 → w'.cell? ⟨b, o, none⟩ = w.cell? ⟨b, o, none⟩) → Lies0 w lo t b off → Lies0 w' lo t b off
 | .node k s m kk, b, off, hb, hl => by
   unfold Lies0 at hl ⊢
   obtain ⟨h0, h1, h2, hs, hn, a, c, h3, hc1, hc2, hk⟩ := hl
   refine ⟨(hb _ (by omega) (by omega)).trans h0, (hb _ (by omega) (by omega)).trans h1, (hb _ (by omega) (by omega)).trans h2, hs, hn, a, c, (hb _ (by omega) (by omega)).trans h3, hc1, hc2, ?_⟩
   rcases hk with hk | ⟨b', e, hlo, hf, hk⟩
   ·exact .inl hk
   ·cases hkk : kk with
    | nil => exact .inl rfl
    | cons x r =>
      have hb' : b' < w.heap.size := by
       rw [hkk] at hk
       unfold Lies0L at hk
       exact hk.1.lt
      rw [← hkk]
      exact .inr ⟨b', e, hlo, fun o => (h b' o hlo hb').2.trans (hf o), Lies0L.stay h kk b' 0 hlo hk⟩
theorem Lies0L.stay {w w' : World} {lo : Nat} (h : ∀ b o, lo ≤ b → b < w.heap.size → w'.cell? ⟨b, o, none⟩ = w.cell? ⟨b, o, none⟩ ∧ w'.frozen? ⟨b, o, none⟩ = w.frozen? ⟨b, o, none⟩) : ∀ (ks : List T) (b off : Nat), lo ≤ b → Lies0L w lo ks b off → Lies0L w' lo ks b off
 | [], _, _, _, _ => by unfold Lies0L; trivial
 | t :: r, b, off, hb, hl => by
   unfold Lies0L at hl ⊢
   exact ⟨Lies0.stay h t b off (fun o _ _ => (h b o hb hl.1.lt).1) hl.1, Lies0L.stay h r b (off + 4) hb hl.2⟩
end
mutual
theorem Lies0.lower {w : World} {lo lo' : Nat} (h : lo' ≤ lo) : ∀ (t : T) (b off : Nat), Lies0 w lo t b off → Lies0 w lo' t b off
 | .node k s m kk, b, off, hl => by
   unfold Lies0 at hl ⊢
   obtain ⟨h0, h1, h2, hs, hn, a, c, h3, hc1, hc2, hk⟩ := hl
   refine ⟨h0, h1, h2, hs, hn, a, c, h3, hc1, hc2, ?_⟩
   rcases hk with hk | ⟨b', e, hlo, hf, hk⟩
   ·exact .inl hk
   ·exact .inr ⟨b', e, Nat.le_trans h hlo, hf, Lies0L.lower h kk b' 0 hk⟩
theorem Lies0L.lower {w : World} {lo lo' : Nat} (h : lo' ≤ lo) : ∀ (ks : List T) (b off : Nat), Lies0L w lo ks b off → Lies0L w lo' ks b off
 | [], _, _, _ => by unfold Lies0L; trivial
 | t :: r, b, off, hl => by
   unfold Lies0L at hl ⊢
   exact ⟨Lies0.lower h t b off hl.1, Lies0L.lower h r b (off + 4) hl.2⟩
end
mutual
theorem Lies0.plain {w : World} {lo : Nat} : ∀ (t : T) (b off : Nat), Lies0 w lo t b off → Lies w lo t b off
 | .node k s m kk, b, off, hl => by
   unfold Lies0 at hl
   unfold Lies
   obtain ⟨h0, h1, h2, hs, hn, a, c, h3, hc1, hc2, hk⟩ := hl
   refine ⟨h0, h1, h2, hs, hn, a, c, h3, ?_⟩
   rcases hk with hk | ⟨b', e, hlo, hf, hk⟩
   ·exact .inl hk
   ·exact .inr ⟨b', 0, e, hlo, Lies0L.plain kk b' 0 hk⟩
theorem Lies0L.plain {w : World} {lo : Nat} : ∀ (ks : List T) (b off : Nat), Lies0L w lo ks b off → LiesL w lo ks b off
 | [], _, _, _ => by unfold LiesL; trivial
 | t :: r, b, off, hl => by
   unfold Lies0L at hl
   unfold LiesL
   exact ⟨Lies0.plain t b off hl.1, Lies0L.plain r b (off + 4) hl.2⟩
end
theorem Kids0.stay {w w' : World} {lo : Nat} (h : ∀ b o, lo ≤ b → b < w.heap.size → w'.cell? ⟨b, o, none⟩ = w.cell? ⟨b, o, none⟩ ∧ w'.frozen? ⟨b, o, none⟩ = w.frozen? ⟨b, o, none⟩) {a : Option Addr} {kk : List T} (hk : Kids0 w lo a kk) : Kids0 w' lo a kk := by
 rcases hk with hk | ⟨b', e, hlo, hf, hk⟩
 ·exact .inl hk
 ·cases hkk : kk with
  | nil => exact .inl rfl
  | cons x r =>
    have hb' : b' < w.heap.size := by
     rw [hkk] at hk
     unfold Lies0L at hk
     exact hk.1.lt
    rw [← hkk]
    exact .inr ⟨b', e, hlo, fun o => (h b' o hlo hb').2.trans (hf o), Lies0L.stay h kk b' 0 hlo hk⟩
theorem Kids0.lower {w : World} {lo lo' : Nat} (h : lo' ≤ lo) {a : Option Addr} {kk : List T} (hk : Kids0 w lo a kk) : Kids0 w lo' a kk := by
 rcases hk with hk | ⟨b', e, hlo, hf, hk⟩
 ·exact .inl hk
 ·exact .inr ⟨b', e, Nat.le_trans h hlo, hf, Lies0L.lower h kk b' 0 hk⟩
theorem Kids0.plain {w : World} {lo : Nat} {a : Option Addr} {kk : List T} (hk : Kids0 w lo a kk) : Kids w lo a kk := by
 rcases hk with hk | ⟨b', e, hlo, hf, hk⟩
 ·exact .inl hk
 ·exact .inr ⟨b', 0, e, hlo, Lies0L.plain kk b' 0 hk⟩
theorem below_both {w w' : World} (hb : Below w.heap.size w w') (b o : Nat) (h : b < w.heap.size) : w'.cell? ⟨b, o, none⟩ = w.cell? ⟨b, o, none⟩ ∧ w'.frozen? ⟨b, o, none⟩ = w.frozen? ⟨b, o, none⟩ := ⟨hb.cell (p := ⟨b, o, none⟩) h, hb.frozen (p := ⟨b, o, none⟩) h⟩
theorem Kids0.below {w w' : World} {lo : Nat} {a : Option Addr} {kk : List T} (hk : Kids0 w lo a kk) (hb : Below w.heap.size w w') : Kids0 w' lo a kk := hk.stay fun b o _ h => below_both hb b o h
end Go.Proofs.YtedfnadgmhjojaaGreatDoor
namespace Go.Proofs.YtedfnadgmhjojaaGreatDoor
open Go.RowKit

def ToOk (t : T) : Prop := match t with
 | .node k s m kk => ∀ (a : Option Addr) (c : Nat) (w : World), bulk t ≤ 1048576 → Kids w 0 a kk →
   Calls Tryz.prog 45 #[.agg #[.int .i64 k, .string s, .int .i64 m, .slice a kk.length c]] w fun e w' =>
    (∃ a' c', e = .returned (.agg #[.int .i64 k, .string s, .int .i64 m, .slice a' kk.length c']) ∧ Kids0 w' w.heap.size a' kk ∧ kk.length ≤ c' ∧ c' ≤ maxLen) ∧ Below w.heap.size w w'

theorem Tryz.info38 : (Tryz.prog.info? 38).map (fun i => (i.zero, i.size, i.bytes)) = some (some (.agg #[.int .i64 0, .string ByteArray.empty, .int .i64 0, .slice none 0 0]), 4, 56) := by kernel_rfl
theorem owns_below {w w' : World} {base e size n : Nat} {v : Value} {xs : List Value} (h : w.ownsRow base e size v n xs) (hb : Below w.heap.size w w') : w'.ownsRow base e size v n xs :=
 h.kept (row := none) ⟨hb.os, hb.tape, hb.output, hb.size, fun k hk _ => hb.block k hk⟩ (by cases v.ownBlock <;> simp)
theorem bulk_mem {ks : List T} {t : T} (h : t ∈ ks) : bulk t ≤ bulks ks := by
 induction ks with
 | nil => cases h
 | cons x r ih =>
   simp only [bulks]
   rcases List.mem_cons.1 h with rfl | h
   ·omega
   ·have := ih h; omega
theorem bulk_node {k m : Int} {s : ByteArray} {kk : List T} : bulk (.node k s m kk) = s.size + kk.length + bulks kk := by simp only [bulk]

/-- Four cells are written at block g; what lies ahead of them there, and in later blocks, stays. -/
theorem four_stay {w : World} {g o : Nat} {v0 v1 v2 v3 : Value} {b j : Nat} (h : b ≠ g ∨ j < o ∨ o + 4 ≤ j) :
    ((((w.setCell ⟨g, o, none⟩ v0).setCell ⟨g, o + 1, none⟩ v1).setCell ⟨g, o + 2, none⟩ v2).setCell ⟨g, o + 3, none⟩ v3).cell? ⟨b, j, none⟩ = w.cell? ⟨b, j, none⟩ := by
 rw [World.cell?_setCell_other, World.cell?_setCell_other, World.cell?_setCell_other, World.cell?_setCell_other] <;> (intro e; injection e with e1 e2; omega)

theorem four_both {w : World} {g o : Nat} {v0 v1 v2 v3 : Value} {b j : Nat} (h : b ≠ g) :
    ((((w.setCell ⟨g, o, none⟩ v0).setCell ⟨g, o + 1, none⟩ v1).setCell ⟨g, o + 2, none⟩ v2).setCell ⟨g, o + 3, none⟩ v3).cell? ⟨b, j, none⟩ = w.cell? ⟨b, j, none⟩ ∧
    ((((w.setCell ⟨g, o, none⟩ v0).setCell ⟨g, o + 1, none⟩ v1).setCell ⟨g, o + 2, none⟩ v2).setCell ⟨g, o + 3, none⟩ v3).frozen? ⟨b, j, none⟩ = w.frozen? ⟨b, j, none⟩ :=
 ⟨four_stay (.inl h), by simp⟩
set_option maxHeartbeats 800000 in
theorem toNodeS_of (kk : List T) (IH : ∀ t ∈ kk, ToOk t) (b off c : Nat) (w : World) (hn : kk.length + bulks kk ≤ 1048576) (hl : LiesL w 0 kk b off) :
    Calls Tryz.prog 64 #[.slice (some ⟨b, off, none⟩) kk.length c] w fun e w' =>
     (∃ a' c', e = .returned (.slice a' kk.length c') ∧ Kids0 w' w.heap.size a' kk ∧ kk.length ≤ c' ∧ c' ≤ maxLen) ∧ Below w.heap.size w w' := by
 obtain ⟨i0, hi, hz⟩ := Option.map_eq_some_iff.1 Tryz.info38
 simp only [Prod.mk.injEq] at hz
 obtain ⟨hz0, hz1, hz2⟩ := hz
 obtain ⟨w1, hmk, hown0, hg0⟩ := run_make_full (P := Tryz.prog) w w.heap.size 36 38 i0 _ 4 Tryz.underlying36 hi hz0 hz1 .i64 .i64 kk.length (by rw [hz2]; omega) (by unfold maxLen; omega) (Nat.le_refl _)
 have hsz : kk.length ≤ 1048576 := by omega
 have HN := mkHid hn
 have HL := mkHid hl
 have HI := mkHid IH
 have HO := mkHid hown0
 have HG := mkHid (Below.grown (Below.refl w.heap.size w) hg0 (Nat.le_refl _) (fun k hk => by cases hk))
 clear hl hown0 hg0 hi hz0 hz1 hz2 IH hn
 go_enter Tryz.func64, Tryz.ntmps64
 go_wp2
 go_loopw [4] (fun i w' => ∃ (k : Nat) (xs : List Value), k ≤ kk.length ∧ i = .int .i64 k ∧ w'.ownsRow w.heap.size 38 4 (.slice (some ⟨w.heap.size, 0, none⟩) kk.length kk.length) kk.length xs ∧
  (∀ j t, j < k → kk[j]? = some t → Lies0 w' (w.heap.size + 1) t w.heap.size (j * 4)) ∧ Below w.heap.size w w') (fun i _ => kk.length - (intOf i).toNat)
 case atStart => exact ⟨0, _, Nat.zero_le _, rfl, HO.out, fun j t hj => by omega, HG.out⟩
 case round =>
  obtain ⟨k, xs, hk, rfl, hown, hdone, hbel⟩ := hrel
  have HW := mkHid hown
  have HD := mkHid hdone
  have HB := mkHid hbel
  clear hown hdone hbel HO HG hmk
  by_cases hlt : k < kk.length
  ·obtain ⟨x, hx⟩ : ∃ x, kk[k]? = some x := ⟨_, List.getElem?_eq_getElem hlt⟩
   have HX := mkHid hx
   obtain ⟨xk, xs', xm, xkk⟩ := x
   obtain ⟨xa, xc, hc0, hc1, hc2, hc3, hs, hkn, hkids⟩ := (HL.out.below (Nat.zero_le _) HB.out).at hx
   have HC := mkHid (HI.out _ (List.mem_of_getElem? hx) xa xc wr (by have := bulk_mem (List.mem_of_getElem? hx); have := HN.out; omega) hkids)
   have HS := mkHid (And.intro hs hkn)
   have hgr : w.heap.size < wr.heap.size := by
    obtain ⟨_, h | ⟨g, cap, cur, h, _, hg, _⟩⟩ := HW.out
    ·cases h.1
    ·simp at h
     obtain ⟨⟨rfl⟩, _⟩ := h
     exact (Array.getElem?_eq_some_iff.1 hg).1
   have HGR := mkHid hgr
   clear hx hs hkn hkids hgr
   go_wp2_with fail
   refine HC.out.mono ?_
   rintro e w2 ⟨⟨a', c', rfl, hk', hcap⟩, hb2⟩
   have HCP := mkHid hcap
   clear hcap
   have HK := mkHid hk'
   have HW2 := mkHid (owns_below HW.out hb2)
   have HD2 : Hid (∀ j t, j < k → kk[j]? = some t → Lies0 w2 (w.heap.size + 1) t w.heap.size (j * 4)) := mkHid fun j t hj ht => Lies0.stay (fun b o _ h => below_both hb2 b o h) t _ _ (fun o _ _ => hb2.cell (p := ⟨_, o, none⟩) HGR.out) (HD.out j t hj ht)
   have HB2 := mkHid (HB.out.trans (hb2.mono HB.out.size))
   clear hb2 hc0 hc1 hc2 hc3 hk' HC HD
   have hxl := HW2.out.1
   obtain ⟨v0, c0⟩ : ∃ v, w2.cell? ⟨w.heap.size, k * 4, none⟩ = some v := ⟨_, (HW2.out.cellAt (k * 4) (by omega)).trans (List.getElem?_eq_getElem (by omega))⟩
   obtain ⟨v1, c1⟩ : ∃ v, w2.cell? ⟨w.heap.size, k * 4 + 1, none⟩ = some v := ⟨_, (HW2.out.cellAt (k * 4 + 1) (by omega)).trans (List.getElem?_eq_getElem (by omega))⟩
   obtain ⟨v2, c2⟩ : ∃ v, w2.cell? ⟨w.heap.size, k * 4 + 1 + 1, none⟩ = some v := ⟨_, (HW2.out.cellAt (k * 4 + 1 + 1) (by omega)).trans (List.getElem?_eq_getElem (by omega))⟩
   obtain ⟨v3, c3⟩ : ∃ v, w2.cell? ⟨w.heap.size, k * 4 + 1 + 1 + 1, none⟩ = some v := ⟨_, (HW2.out.cellAt (k * 4 + 1 + 1 + 1) (by omega)).trans (List.getElem?_eq_getElem (by omega))⟩
   clear hxl
   have f0 := HW2.out.frozenAt (k * 4)
   have f1 := HW2.out.frozenAt (k * 4 + 1)
   have f2 := HW2.out.frozenAt (k * 4 + 1 + 1)
   have f3 := HW2.out.frozenAt (k * 4 + 1 + 1 + 1)
   go_wp2
   go_roundw
   case rel =>
    have O1 := (((((HW2.out.stored (k * 4) (.int .i64 xk)).1).stored (k * 4 + 1) (.string xs')).1.stored (k * 4 + 2) (.int .i64 xm)).1.stored (k * 4 + 3) (.slice a' xkk.length c')).1
    refine ⟨k + 1, _, by omega, by go_num, O1, fun j t hj ht => ?_, (((HB2.out.setCell (p := ⟨w.heap.size, k * 4, none⟩) (Nat.le_refl _) _).setCell (p := ⟨w.heap.size, k * 4 + 1, none⟩) (Nat.le_refl _) _).setCell (p := ⟨w.heap.size, k * 4 + 2, none⟩) (Nat.le_refl _) _).setCell (p := ⟨w.heap.size, k * 4 + 3, none⟩) (Nat.le_refl _) _⟩
    have hlen := HW2.out.1
    rcases (by omega : j < k ∨ j = k) with hjk | rfl
    ·exact Lies0.stay (fun b o hb _ => four_both (by omega)) t _ _ (fun o _ _ => four_stay (.inr (.inl (by omega)))) (HD2.out j t hjk ht)
    ·have e := HX.out.symm.trans ht
     simp only [Option.some.injEq] at e
     subst e
     unfold Lies0
     refine ⟨(O1.cellAt (j * 4) (by omega)).trans ?_, (O1.cellAt (j * 4 + 1) (by omega)).trans ?_, (O1.cellAt (j * 4 + 2) (by omega)).trans ?_, HS.out.1, HS.out.2, a', c', (O1.cellAt (j * 4 + 3) (by omega)).trans ?_, HCP.out.1, HCP.out.2, ?_⟩
     ·simp [List.getElem?_set]; omega
     ·simp [List.getElem?_set]; omega
     ·simp [List.getElem?_set]; omega
     ·simp [List.getElem?_set]; omega
     ·exact ((HK.out.lower (show w.heap.size + 1 ≤ wr.heap.size from HGR.out)).stay (fun b o hb _ => four_both (by omega)))
   case measure => simp [intOf]; omega
  ·go_wp2
   go_ret
   have e : k = kk.length := by omega
   subst e
   refine ⟨⟨_, _, rfl, .inr ⟨_, rfl, Nat.le_refl _, HW.out.frozenAt, Lies0L.of fun i t ht => ?_⟩, Nat.le_refl _, by unfold maxLen; omega⟩, HB.out⟩
   rw [Nat.zero_add]
   exact Lies0.lower (Nat.le_succ _) _ _ _ (HD.out i t (List.getElem?_eq_some_iff.1 ht).1 ht)
end Go.Proofs.YtedfnadgmhjojaaGreatDoor
namespace Go.Proofs.YtedfnadgmhjojaaGreatDoor
open Go.RowKit

set_option maxHeartbeats 800000 in
theorem toNodeS_nil (a : Option Addr) (c : Nat) (w : World) : Calls Tryz.prog 64 #[.slice a 0 c] w fun e w' => (∃ a' c', e = .returned (.slice a' 0 c') ∧ c' ≤ maxLen) ∧ Below w.heap.size w w' := by
 obtain ⟨i0, hi, hz⟩ := Option.map_eq_some_iff.1 Tryz.info38
 simp only [Prod.mk.injEq] at hz
 obtain ⟨hz0, hz1, hz2⟩ := hz
 obtain ⟨w1, hmk, hown0, hg0⟩ := run_make_full (P := Tryz.prog) w w.heap.size 36 38 i0 _ 4 Tryz.underlying36 hi hz0 hz1 .i64 .i64 0 (by rw [hz2]; omega) (by unfold maxLen; omega) (Nat.le_refl _)
 have HG := mkHid (Below.grown (Below.refl w.heap.size w) hg0 (Nat.le_refl _) (fun k hk => by cases hk))
 clear hown0 hg0 hi hz0 hz1 hz2
 simp only [Int.natCast_zero] at hmk
 go_enter Tryz.func64, Tryz.ntmps64
 go_wp2
 go_loopw [4] (fun i w' => i = .int .i64 0 ∧ Below w.heap.size w w') (fun i _ => 0)
 case atStart => exact ⟨rfl, HG.out⟩
 case round =>
  obtain ⟨rfl, hb⟩ := hrel
  have HB := mkHid hb
  clear hb HG hmk
  go_wp2
  go_ret
  exact ⟨⟨_, _, rfl, Nat.zero_le _⟩, HB.out⟩

theorem toNodeS_kids (kk : List T) (IH : ∀ t ∈ kk, ToOk t) (a : Option Addr) (c : Nat) (w : World) (hn : kk.length + bulks kk ≤ 1048576) (hl : Kids w 0 a kk) :
    Calls Tryz.prog 64 #[.slice a kk.length c] w fun e w' => (∃ a' c', e = .returned (.slice a' kk.length c') ∧ Kids0 w' w.heap.size a' kk ∧ kk.length ≤ c' ∧ c' ≤ maxLen) ∧ Below w.heap.size w w' := by
 rcases hl with rfl | ⟨b, o, rfl, _, hl⟩
 ·refine (toNodeS_nil a c w).mono ?_
  rintro e w' ⟨⟨a', c', rfl, hc⟩, hb⟩
  exact ⟨⟨a', c', rfl, .inl rfl, Nat.zero_le _, hc⟩, hb⟩
 ·exact toNodeS_of kk IH b o c w hn hl

set_option maxHeartbeats 800000 in
theorem toNode_ok (t : T) : ToOk t := by
 refine T.induct ?_ t
 intro k s m kk IH a c w hn hk
 have HN := mkHid (show kk.length + bulks kk ≤ 1048576 by rw [bulk_node] at hn; omega)
 have HI := mkHid IH
 have HK := mkHid hk
 clear hn IH hk
 go_enter Tryz.func45, Tryz.ntmps45
 go_wp2_with fail
 refine (toNodeS_kids kk HI.out a c _ HN.out (HK.out.below ((((Below.refl w.heap.size w).alloc (Nat.le_refl _) _).alloc (by simp) _).alloc (by simp; omega) _))).mono ?_
 rintro e w1 ⟨⟨a', c', rfl, hk', hcap⟩, hb1⟩
 have HCP := mkHid hcap
 clear hcap
 obtain ⟨hc, hf⟩ := bcell hb1
 have HK' := mkHid (hk'.lower (lo' := w.heap.size + 3) (by simp))
 have HB := mkHid (below_step ((((Below.refl w.heap.size w).alloc (Nat.le_refl _) _).alloc (by simp) _).alloc (by simp; omega) _) hb1)
 clear hk' hb1
 have c0 := (hc (w.heap.size + 1 + 1) 0 (by simp)).trans (show _ = some (Value.int .i64 k) by simp [go_sem])
 have c1 := (hc (w.heap.size + 1 + 1) 1 (by simp)).trans (show _ = some (Value.string s) by simp [go_sem])
 have c2 := (hc (w.heap.size + 1 + 1) 2 (by simp)).trans (show _ = some (Value.int .i64 m) by simp [go_sem])
 have c3 := (hc (w.heap.size + 1 + 1) 3 (by simp)).trans (show _ = some (Value.slice none 0 0) by simp [go_sem])
 have f3 := (hf (w.heap.size + 1 + 1) 3 (by simp)).trans (show _ = false by simp [go_sem])
 have d0 := (hc (w.heap.size + 1) 0 (by simp)).trans (show _ = some (Value.int .i64 0) by simp [go_sem])
 have g0 := (hf (w.heap.size + 1) 0 (by simp)).trans (show _ = false by simp [go_sem])
 have d1 := (hc (w.heap.size + 1) 1 (by simp)).trans (show _ = some (Value.string ⟨#[]⟩) by simp [go_sem])
 have g1 := (hf (w.heap.size + 1) 1 (by simp)).trans (show _ = false by simp [go_sem])
 have d2 := (hc (w.heap.size + 1) 2 (by simp)).trans (show _ = some (Value.int .i64 0) by simp [go_sem])
 have g2 := (hf (w.heap.size + 1) 2 (by simp)).trans (show _ = false by simp [go_sem])
 have d3 := (hc (w.heap.size + 1) 3 (by simp)).trans (show _ = some (Value.slice none 0 0) by simp [go_sem])
 have g3 := (hf (w.heap.size + 1) 3 (by simp)).trans (show _ = false by simp [go_sem])
 clear hc hf
 go_wp2
 refine bodyPost_ret (v := .agg #[.int .i64 k, .string s, .int .i64 m, .slice a' kk.length c']) (by simp [results, Tryz.results45, go_sem, d0, d1, d2, d3]) rfl ⟨⟨a', c', rfl, ?_, HCP.out⟩, ?_⟩
 ·refine (HK'.out.stay fun b o hb _ => ⟨?_, by simp⟩).lower (by omega)
  rw [World.cell?_setCell_far _ _ _ _ (by simp; omega), World.cell?_setCell_far _ _ _ _ (by simp; omega), World.cell?_setCell_far _ _ _ _ (by simp; omega), World.cell?_setCell_far _ _ _ _ (by simp; omega), World.cell?_setCell_far _ _ _ _ (by simp; omega)]
 ·exact ((((HB.out.setCell (p := ⟨w.heap.size + 1 + 1, 3, none⟩) (by simp; omega) _).setCell (p := ⟨w.heap.size + 1, 0, none⟩) (by simp) _).setCell (p := ⟨w.heap.size + 1, 1, none⟩) (by simp) _).setCell (p := ⟨w.heap.size + 1, 2, none⟩) (by simp) _).setCell (p := ⟨w.heap.size + 1, 3, none⟩) (by simp) _
end Go.Proofs.YtedfnadgmhjojaaGreatDoor
namespace Go.Proofs.YtedfnadgmhjojaaGreatDoor
open Go.RowKit

def EqOk (t : T) : Prop := match t with
 | .node k s m kk => ∀ (a a' : Option Addr) (c c' : Nat) (w : World), kk.length ≤ maxLen → Kids w 0 a kk → Kids w 0 a' kk →
   Calls Tryz.prog 55 #[.agg #[.int .i64 k, .string s, .int .i64 m, .slice a kk.length c], .agg #[.int .i64 k, .string s, .int .i64 m, .slice a' kk.length c']] w fun e w' => e = .returned (.bool true) ∧ Below w.heap.size w w'

set_option maxHeartbeats 800000 in
theorem eqNodeS_of (kk : List T) (IH : ∀ t ∈ kk, EqOk t) (b off c b' off' c' : Nat) (w : World) (hn : kk.length ≤ maxLen) (hl : LiesL w 0 kk b off) (hl' : LiesL w 0 kk b' off') :
    Calls Tryz.prog 78 #[.slice (some ⟨b, off, none⟩) kk.length c, .slice (some ⟨b', off', none⟩) kk.length c'] w fun e w' => e = .returned (.bool true) ∧ Below w.heap.size w w' := by
 unfold maxLen at hn
 have HL := mkHid hl
 have HL' := mkHid hl'
 have HI := mkHid IH
 clear hl hl' IH
 go_enter Tryz.func78, Tryz.ntmps78
 go_wp2
 go_loopw [5] (fun i w' => ∃ (k : Nat), k ≤ kk.length ∧ i = .int .i64 k ∧ Below w.heap.size w w') (fun i _ => kk.length - (intOf i).toNat)
 case atStart => exact ⟨0, Nat.zero_le _, rfl, Below.refl _ _⟩
 case round =>
  obtain ⟨k, hk, rfl, hbel⟩ := hrel
  have HB := mkHid hbel
  clear hbel
  by_cases hlt : k < kk.length
  ·obtain ⟨x, hx⟩ : ∃ x, kk[k]? = some x := ⟨_, List.getElem?_eq_getElem hlt⟩
   obtain ⟨xk, xs, xm, xkk⟩ := x
   obtain ⟨xa, xc, hc0, hc1, hc2, hc3, hs, hkn, hkids⟩ := (HL.out.below (Nat.zero_le _) HB.out).at hx
   obtain ⟨ya, yc, hd0, hd1, hd2, hd3, _, _, hkids'⟩ := (HL'.out.below (Nat.zero_le _) HB.out).at hx
   have HE := mkHid (HI.out _ (List.mem_of_getElem? hx))
   have HK := mkHid hkids
   have HK' := mkHid hkids'
   have HKN := mkHid hkn
   clear hx hs hkids hkids' hkn
   have hlb : b < wr.heap.size := World.block_lt_of_cell? wr _ hc0
   have hlb' : b' < wr.heap.size := World.block_lt_of_cell? wr _ hd0
   have i0 : (0 : Int) ≤ (k : Int) := by omega
   have i1 : (k : Int) < (kk.length : Int) := by omega
   go_wp2
   go_region_held3 (fun w' => w'.cell? ⟨b, off + k * 4, none⟩ = some (.int .i64 xk) ∧ w'.cell? ⟨b, off + k * 4 + 1, none⟩ = some (.string xs) ∧ w'.cell? ⟨b, off + k * 4 + 2, none⟩ = some (.int .i64 xm) ∧ w'.cell? ⟨b, off + k * 4 + 3, none⟩ = some (.slice xa xkk.length xc) ∧ w'.cell? ⟨b', off' + k * 4, none⟩ = some (.int .i64 xk) ∧ w'.cell? ⟨b', off' + k * 4 + 1, none⟩ = some (.string xs) ∧ w'.cell? ⟨b', off' + k * 4 + 2, none⟩ = some (.int .i64 xm) ∧ w'.cell? ⟨b', off' + k * 4 + 3, none⟩ = some (.slice ya xkk.length yc)) (first | exact ⟨hc0, hc1, hc2, hc3, hd0, hd1, hd2, hd3⟩ | exact ⟨(hc _ _ hlb).trans hc0, (hc _ _ hlb).trans hc1, (hc _ _ hlb).trans hc2, (hc _ _ hlb).trans hc3, (hc _ _ hlb').trans hd0, (hc _ _ hlb').trans hd1, (hc _ _ hlb').trans hd2, (hc _ _ hlb').trans hd3⟩)
    (first | (go_at_call 55; refine (HE.out xa ya xc yc _ HKN.out (HK.out.below (Below.refl _ _).drew) (HK'.out.below (Below.refl _ _).drew)).mono ?_; rintro e w1 ⟨rfl, hb1⟩; obtain ⟨hc, hf⟩ := bcell hb1))
   have HB1 : Hid (Below w.heap.size w w1) := HB.out.drew.trans (hb1.mono HB.out.drew.size)
   clear hb1 hc hf
   go_wp2
   go_roundw
   case rel => exact ⟨k + 1, by omega, by go_num, HB1.out⟩
   case measure => simp [intOf]; omega
  ·go_wp2
   go_ret
   exact ⟨rfl, HB.out⟩

set_option maxHeartbeats 400000 in
theorem eqNodeS_nil (a a' : Option Addr) (c c' : Nat) (w : World) : Calls Tryz.prog 78 #[.slice a 0 c, .slice a' 0 c'] w fun e w' => e = .returned (.bool true) ∧ Below w.heap.size w w' := by
 go_enter Tryz.func78, Tryz.ntmps78
 go_wp2
 go_loopw [5] (fun i w' => i = .int .i64 0 ∧ w' = w) (fun i _ => 0)
 case atStart => exact ⟨rfl, rfl⟩
 case round =>
  obtain ⟨rfl, rfl⟩ := hrel
  go_wp2
  go_ret
  exact ⟨rfl, Below.refl _ _⟩
theorem eqNodeS_kids (kk : List T) (IH : ∀ t ∈ kk, EqOk t) (a a' : Option Addr) (c c' : Nat) (w : World) (hn : kk.length ≤ maxLen) (hl : Kids w 0 a kk) (hl' : Kids w 0 a' kk) :
    Calls Tryz.prog 78 #[.slice a kk.length c, .slice a' kk.length c'] w fun e w' => e = .returned (.bool true) ∧ Below w.heap.size w w' := by
 rcases hl with rfl | ⟨b, o, rfl, _, hl⟩
 ·exact eqNodeS_nil a a' c c' w
 ·rcases hl' with rfl | ⟨b', o', rfl, _, hl'⟩
  ·exact eqNodeS_nil _ a' c c' w
  ·exact eqNodeS_of kk IH b o c b' o' c' w hn hl hl'

set_option maxHeartbeats 800000 in
theorem eqNode_ok (t : T) : EqOk t := by
 refine T.induct ?_ t
 intro k s m kk IH a a' c c' w hn hk hk'
 have HN := mkHid hn
 have HI := mkHid IH
 have HK := mkHid hk
 have HK' := mkHid hk'
 clear hn IH hk hk'
 go_enter Tryz.func55, Tryz.ntmps55
 go_wp2_with fail
 refine (eqNodeS_kids kk HI.out a a' c c' _ HN.out (HK.out.below (((Below.refl w.heap.size w).alloc (Nat.le_refl _) _).alloc (by simp) _)) (HK'.out.below (((Below.refl w.heap.size w).alloc (Nat.le_refl _) _).alloc (by simp) _))).mono ?_
 rintro e w1 ⟨rfl, hb1⟩
 have HB := mkHid (below_step (((Below.refl w.heap.size w).alloc (Nat.le_refl _) _).alloc (by simp) _) hb1)
 clear hb1
 go_wp2
 go_ret
 exact ⟨rfl, HB.out⟩
end Go.Proofs.YtedfnadgmhjojaaGreatDoor
namespace Go.Proofs.YtedfnadgmhjojaaGreatDoor
open Go.Shelf
def Tryz.laysM171_ren : Go.Shelf.Ren := ⟨fun | 171 => 17 | 243 => 34 | 246 => 47 | 283 => 65 | 284 => 66 | 285 => 67 | 286 => 68 | 129 => 94 | 317 => 93 | 318 => 95 | 319 => 96 | 320 => 97 | 337 => 117 | 338 => 118 | n => n, fun | 3 => 3 | 9 => 9 | 2 => 2 | 4 => 4 | 171 => 101 | 0 => 0 | 53 => 102 | 37 => 35 | 5 => 5 | 173 => 105 | 212 => 139 | 51 => 140 | 20 => 20 | 213 => 141 | 46 => 142 | 232 => 167 | 233 => 168 | n => n, fun | 17 => 0 | 18 => 1 | 19 => 2 | n => n⟩
theorem Tryz.laysM171 : Go.Proofs.LaysM.n171 Tryz.prog Tryz.laysM171_ren := {
 mixed := by kernel_rfl
 f129 := Tryz.func94.trans (congrArg some (by kernel_rfl))
 f171 := Tryz.func17.trans (congrArg some (by kernel_rfl))
 f243 := Tryz.func34.trans (congrArg some (by kernel_rfl))
 f246 := Tryz.func47.trans (congrArg some (by kernel_rfl))
 f283 := Tryz.func65.trans (congrArg some (by kernel_rfl))
 f284 := Tryz.func66.trans (congrArg some (by kernel_rfl))
 f285 := Tryz.func67.trans (congrArg some (by kernel_rfl))
 f286 := Tryz.func68.trans (congrArg some (by kernel_rfl))
 f317 := Tryz.func93.trans (congrArg some (by kernel_rfl))
 f318 := Tryz.func95.trans (congrArg some (by kernel_rfl))
 f319 := Tryz.func96.trans (congrArg some (by kernel_rfl))
 f320 := Tryz.func97.trans (congrArg some (by kernel_rfl))
 f337 := Tryz.func117.trans (congrArg some (by kernel_rfl))
 f338 := Tryz.func118.trans (congrArg some (by kernel_rfl))
 t0 := Tryz.underlying0
 a0 := Tryz.isAgg0
 z0 := Tryz.sizeOf0
 v0 := Tryz.zeroValue0
 t2 := Tryz.underlying2
 a2 := Tryz.isAgg2
 z2 := Tryz.sizeOf2
 v2 := Tryz.zeroValue2
 t3 := Tryz.underlying3
 a3 := Tryz.isAgg3
 z3 := Tryz.sizeOf3
 v3 := Tryz.zeroValue3
 t4 := Tryz.underlying4
 a4 := Tryz.isAgg4
 z4 := Tryz.sizeOf4
 v4 := Tryz.zeroValue4
 t5 := Tryz.underlying5
 a5 := Tryz.isAgg5
 z5 := Tryz.sizeOf5
 v5 := Tryz.zeroValue5
 t9 := Tryz.underlying9
 a9 := Tryz.isAgg9
 z9 := Tryz.sizeOf9
 v9 := Tryz.zeroValue9
 t20 := Tryz.underlying20
 a20 := Tryz.isAgg20
 z20 := Tryz.sizeOf20
 v20 := Tryz.zeroValue20
 t37 := Tryz.underlying35
 a37 := Tryz.isAgg35
 z37 := Tryz.sizeOf35
 v37 := Tryz.zeroValue35
 t46 := Tryz.underlying142
 a46 := Tryz.isAgg142
 z46 := Tryz.sizeOf142
 v46 := Tryz.zeroValue142
 t51 := Tryz.underlying140
 a51 := Tryz.isAgg140
 z51 := Tryz.sizeOf140
 v51 := Tryz.zeroValue140
 t53 := Tryz.underlying102
 a53 := Tryz.isAgg102
 z53 := Tryz.sizeOf102
 v53 := Tryz.zeroValue102
 t171 := Tryz.underlying101
 a171 := Tryz.isAgg101
 z171 := Tryz.sizeOf101
 v171 := Tryz.zeroValue101
 t173 := Tryz.underlying105
 a173 := Tryz.isAgg105
 z173 := Tryz.sizeOf105
 v173 := Tryz.zeroValue105
 t212 := Tryz.underlying139
 a212 := Tryz.isAgg139
 z212 := Tryz.sizeOf139
 v212 := Tryz.zeroValue139
 t213 := Tryz.underlying141
 a213 := Tryz.isAgg141
 z213 := Tryz.sizeOf141
 t232 := Tryz.underlying167
 a232 := Tryz.isAgg167
 z232 := Tryz.sizeOf167
 v232 := Tryz.zeroValue167
 t233 := Tryz.underlying168
 a233 := Tryz.isAgg168
 z233 := Tryz.sizeOf168
 v233 := Tryz.zeroValue168
 g17 := by kernel_rfl
 g18 := by kernel_rfl
 g19 := by kernel_rfl
 i0 := by kernel_rfl
 i2 := by kernel_rfl
 i3 := by kernel_rfl
 i4 := by kernel_rfl
 i5 := by kernel_rfl
 i9 := by kernel_rfl
 i20 := by kernel_rfl
 i37 := by kernel_rfl
 i46 := by kernel_rfl
 i51 := by kernel_rfl
 i53 := by kernel_rfl
 i171 := by kernel_rfl
 i173 := by kernel_rfl
 i212 := by kernel_rfl
 i232 := by kernel_rfl
 i233 := by kernel_rfl
 m17 := by kernel_rfl
 m18 := by kernel_rfl
 m19 := by kernel_rfl }
open Go.RowKit Go.Sort Go.Lib in
theorem Tryz.strconv_Itoa (n : Int) (h0 : -9223372036854775808 ≤ n) (h1 : n ≤ 9223372036854775807) (w : World) (htab : Lib.TabIs Tryz.prog w "internal/strconv.uint64pow10" .u64 Lib.pow10Tab) :
    Calls Tryz.prog 17 #[.int .i64 n] w fun e w' => e = .returned (.string ⟨(Lib.itoa n).toArray⟩) ∧ ∃ k os, w' = grow (w.drewN k) os := Any.strconv_Itoa Tryz.laysM171 n h0 h1 w htab
def Tryz.lays169_ren : Go.Shelf.Ren := ⟨fun | 169 => 21 | n => n, fun | 70 => 44 | 9 => 9 | 0 => 0 | 72 => 46 | 37 => 35 | 127 => 70 | 3 => 3 | 5 => 5 | n => n, fun | n => n⟩
theorem Tryz.lays169 : Go.Proofs.Lays.n169 Tryz.prog Tryz.lays169_ren := {
 mixed := by kernel_rfl
 f169 := Tryz.func21.trans (congrArg some (by kernel_rfl))
 t0 := Tryz.underlying0
 a0 := Tryz.isAgg0
 z0 := Tryz.sizeOf0
 v0 := Tryz.zeroValue0
 t3 := Tryz.underlying3
 a3 := Tryz.isAgg3
 z3 := Tryz.sizeOf3
 v3 := Tryz.zeroValue3
 t9 := Tryz.underlying9
 a9 := Tryz.isAgg9
 z9 := Tryz.sizeOf9
 v9 := Tryz.zeroValue9
 t37 := Tryz.underlying35
 a37 := Tryz.isAgg35
 z37 := Tryz.sizeOf35
 v37 := Tryz.zeroValue35
 t70 := Tryz.underlying44
 a70 := Tryz.isAgg44
 z70 := Tryz.sizeOf44
 v70 := Tryz.zeroValue44
 t72 := Tryz.underlying46
 a72 := Tryz.isAgg46
 z72 := Tryz.sizeOf46
 v72 := Tryz.zeroValue46
 t127 := Tryz.underlying70
 a127 := Tryz.isAgg70
 z127 := Tryz.sizeOf70
 v127 := Tryz.zeroValue70 }
theorem Tryz.Builder_Extra_169 : Builder.Extra Tryz.prog Tryz.lays169_ren := {
 sizeBuilder := by kernel_rfl
 liesBuilder := by kernel_rfl
 t5 := Tryz.underlying5
 a5 := Tryz.isAgg5
 z5 := Tryz.sizeOf5
 v5 := Tryz.zeroValue5
 infoByte := by kernel_rfl
 cellsByte := by kernel_rfl
 sizeByte := by kernel_rfl
 neB5 := by decide }
open Go.RowKit in
theorem Tryz.Builder_String_any_k (B b : Nat) (l : List UInt8) (w : World) (h : Lib.IsBuilderF 46 5 B b (Lib.byteCells l) w) (hBw : B ≤ w.heap.size) :
    Calls Tryz.prog 21 #[.pointer (some ⟨b, 0, none⟩)] w fun e w' => e = .returned (.string ⟨l.toArray⟩) ∧ (Lib.IsBuilderF 46 5 B b (Lib.byteCells l) w' ∧ Below B w w' ∧ Lib.OthersKept 5 (some b) w w') := Any.Builder_String_any_k Tryz.lays169 Tryz.Builder_Extra_169 B b l w h hBw
def Tryz.lays137_ren : Go.Shelf.Ren := ⟨fun | 137 => 121 | 217 => 132 | 266 => 135 | n => n, fun | 9 => 9 | 5 => 5 | 3 => 3 | n => n, fun | n => n⟩
theorem Tryz.lays137 : Go.Proofs.Lays.n137 Tryz.prog Tryz.lays137_ren := {
 mixed := by kernel_rfl
 f137 := Tryz.func121.trans (congrArg some (by kernel_rfl))
 f217 := Tryz.func132.trans (congrArg some (by kernel_rfl))
 f266 := Tryz.func135.trans (congrArg some (by kernel_rfl))
 t3 := Tryz.underlying3
 a3 := Tryz.isAgg3
 z3 := Tryz.sizeOf3
 v3 := Tryz.zeroValue3
 t5 := Tryz.underlying5
 a5 := Tryz.isAgg5
 z5 := Tryz.sizeOf5
 v5 := Tryz.zeroValue5
 t9 := Tryz.underlying9
 a9 := Tryz.isAgg9
 z9 := Tryz.sizeOf9
 v9 := Tryz.zeroValue9 }
open Go.RowKit in
theorem Tryz.strings_IndexByte (s : ByteArray) (c : Int) (w : World) :
    Calls Tryz.prog 121 #[.string s, .int .u8 c] w fun e w' => e = .returned (.int .i64 (Lib.indexByte s.data.toList c.toNat.toUInt8)) ∧ w' = w := Any.strings_IndexByte Tryz.lays137 s c w
def Tryz.laysM316_ren : Go.Shelf.Ren := ⟨fun | 316 => 125 | n => n, fun | 9 => 9 | 3 => 3 | 4 => 4 | 37 => 35 | 0 => 0 | 127 => 70 | 5 => 5 | n => n, fun | n => n⟩
theorem Tryz.laysM316 : Go.Proofs.LaysM.n316 Tryz.prog Tryz.laysM316_ren := {
 mixed := by kernel_rfl
 f316 := Tryz.func125.trans (congrArg some (by kernel_rfl))
 t0 := Tryz.underlying0
 a0 := Tryz.isAgg0
 z0 := Tryz.sizeOf0
 v0 := Tryz.zeroValue0
 t3 := Tryz.underlying3
 a3 := Tryz.isAgg3
 z3 := Tryz.sizeOf3
 v3 := Tryz.zeroValue3
 t4 := Tryz.underlying4
 a4 := Tryz.isAgg4
 z4 := Tryz.sizeOf4
 v4 := Tryz.zeroValue4
 t9 := Tryz.underlying9
 a9 := Tryz.isAgg9
 z9 := Tryz.sizeOf9
 v9 := Tryz.zeroValue9
 t37 := Tryz.underlying35
 a37 := Tryz.isAgg35
 z37 := Tryz.sizeOf35
 v37 := Tryz.zeroValue35
 t127 := Tryz.underlying70
 a127 := Tryz.isAgg70
 z127 := Tryz.sizeOf70
 v127 := Tryz.zeroValue70
 t5 := Tryz.underlying5
 a5 := Tryz.isAgg5
 z5 := Tryz.sizeOf5
 v5 := Tryz.zeroValue5
 i0 := by kernel_rfl
 i3 := by kernel_rfl
 i4 := by kernel_rfl
 i5 := by kernel_rfl
 i9 := by kernel_rfl
 i37 := by kernel_rfl
 i127 := by kernel_rfl }
open Go.RowKit in
theorem Tryz.stringslite_Clone (s : ByteArray) (w : World) (hlim : s.size ≤ 281474976710656) :
    Calls Tryz.prog 125 #[.string s] w fun e w' => e = .returned (.string s) ∧ Below w.heap.size w w' := Any.stringslite_Clone Tryz.laysM316 s w hlim
end Go.Proofs.YtedfnadgmhjojaaGreatDoor
namespace Go.Proofs.YtedfnadgmhjojaaGreatDoor
open Go.RowKit
open Pl

/-- A word as data. -/
structure W3 where
 k : Int
 s : ByteArray
 a : Int

/-- The words lie from offset off on in block b. -/
def LiesW (w : World) (b off : Nat) (ws : List W3) : Prop := ∀ i x, ws[i]? = some x →
 w.cell? ⟨b, off + i * 3, none⟩ = some (.int .i64 x.k) ∧ w.cell? ⟨b, off + i * 3 + 1, none⟩ = some (.string x.s) ∧ w.cell? ⟨b, off + i * 3 + 2, none⟩ = some (.int .i64 x.a)
theorem LiesW.below {w w' : World} {b off : Nat} {ws : List W3} (h : LiesW w b off ws) (hb : Below w.heap.size w w') : LiesW w' b off ws := fun i x hx => by
 obtain ⟨h0, h1, h2⟩ := h i x hx
 have hlt := World.block_lt_of_cell? w _ h0
 exact ⟨(hb.cell (p := ⟨b, off + i * 3, none⟩) hlt).trans h0, (hb.cell (p := ⟨b, off + i * 3 + 1, none⟩) hlt).trans h1, (hb.cell (p := ⟨b, off + i * 3 + 2, none⟩) hlt).trans h2⟩
/-- The cells of a list of words. -/
def flat (ws : List W3) : List Value := ws.flatMap fun x => [.int .i64 x.k, .string x.s, .int .i64 x.a]
theorem flat_length (ws : List W3) : (flat ws).length = ws.length * 3 := by
 induction ws with
 | nil => rfl
 | cons x ws ih =>
   have : flat (x :: ws) = [.int .i64 x.k, .string x.s, .int .i64 x.a] ++ flat ws := rfl
   rw [this]
   simp only [List.length_append, List.length_cons, List.length_nil, ih]
   omega
theorem flat_append (a b : List W3) : flat (a ++ b) = flat a ++ flat b := by simp [flat]
theorem flat_get {ws : List W3} {k : Nat} {x : W3} (hx : ws[k]? = some x) : (flat ws)[k * 3]? = some (.int .i64 x.k) ∧ (flat ws)[k * 3 + 1]? = some (.string x.s) ∧ (flat ws)[k * 3 + 2]? = some (.int .i64 x.a) := by
 obtain ⟨hk, hx'⟩ := List.getElem?_eq_some_iff.1 hx
 have e : ws = ws.take k ++ x :: ws.drop (k + 1) := by
  rw [← hx', ← List.drop_eq_getElem_cons hk, List.take_append_drop]
 have hl : (flat (ws.take k)).length = k * 3 := by rw [flat_length]; simp; omega
 have e2 : flat ws = flat (ws.take k) ++ (.int .i64 x.k :: .string x.s :: .int .i64 x.a :: flat (ws.drop (k + 1))) := by
  conv => lhs; rw [e]
  rw [flat_append]; rfl
 rw [e2]
 refine ⟨?_, ?_, ?_⟩
 ·rw [List.getElem?_append_right (by omega), hl]; simp
 ·rw [List.getElem?_append_right (by omega), hl, show k * 3 + 1 - k * 3 = 1 by omega]; rfl
 ·rw [List.getElem?_append_right (by omega), hl, show k * 3 + 2 - k * 3 = 2 by omega]; rfl
/-- A row of our own holds the words. -/
theorem lies_of_row {w : World} {base e g cap : Nat} {ws : List W3} (h : w.ownsRow base e 3 (.slice (some ⟨g, 0, none⟩) ws.length cap) ws.length (flat ws)) : LiesW w g 0 ws := fun i x hx => by
 obtain ⟨hi, _⟩ := List.getElem?_eq_some_iff.1 hx
 obtain ⟨f0, f1, f2⟩ := flat_get hx
 rw [Nat.zero_add]
 exact ⟨(h.cellAt (i * 3) (by omega)).trans f0, (h.cellAt (i * 3 + 1) (by omega)).trans f1, (h.cellAt (i * 3 + 2) (by omega)).trans f2⟩

theorem Tryz.info99 : (Tryz.prog.info? 99).map (fun i => (i.zero, i.size, i.bytes)) = some (some (.agg #[.int .i64 0, .string ByteArray.empty, .int .i64 0]), 3, 32) := by kernel_rfl
theorem ret_str {a b : ByteArray} (h : a = b) : Ending.returned (.string a) = .returned (.string b) := by rw [h]
end Go.Proofs.YtedfnadgmhjojaaGreatDoor
namespace Go.Proofs.YtedfnadgmhjojaaGreatDoor
open Go.RowKit
open Pl

/-- The first place from at on where p holds, or n. -/
def firstF (p : Nat → Bool) (n : Nat) : Nat → Nat → Nat
 | 0, at_ => at_
 | f + 1, at_ => if at_ < n then (if p at_ then at_ else firstF p n f (at_ + 1)) else at_
def first (p : Nat → Bool) (n at_ : Nat) : Nat := firstF p n (n - at_) at_
def IsFirst (p : Nat → Bool) (n at_ e : Nat) : Prop := at_ ≤ e ∧ e ≤ n ∧ (∀ j, at_ ≤ j → j < e → p j = false) ∧ (e = n ∨ p e = true)
theorem firstF_is (p : Nat → Bool) (n : Nat) (f at_ : Nat) (h : at_ ≤ n) (hf : n - at_ ≤ f) : IsFirst p n at_ (firstF p n f at_) := by
 induction f generalizing at_ with
 | zero => have : at_ = n := by omega
           subst this; exact ⟨Nat.le_refl _, Nat.le_refl _, fun j h1 h2 => by simp [firstF] at h2; omega, .inl rfl⟩
 | succ f ih =>
   simp only [firstF]
   by_cases h1 : at_ < n
   ·rw [if_pos h1]
    by_cases h2 : p at_ = true
    ·rw [if_pos h2]
     exact ⟨Nat.le_refl _, h, fun j a b => by omega, .inr h2⟩
    ·rw [if_neg h2]
     obtain ⟨a, b, c, d⟩ := ih (at_ + 1) (by omega) (by omega)
     refine ⟨by omega, b, fun j hj hj' => ?_, d⟩
     by_cases e : j = at_
     ·subst e; simpa using h2
     ·exact c j (by omega) hj'
   ·rw [if_neg h1]
    exact ⟨Nat.le_refl _, h, fun j a b => by omega, .inl (by omega)⟩
theorem first_is (p : Nat → Bool) (n at_ : Nat) (h : at_ ≤ n) : IsFirst p n at_ (first p n at_) := firstF_is p n _ at_ h (Nat.le_refl _)
theorem first_eq {p : Nat → Bool} {n at_ e : Nat} (h : IsFirst p n at_ e) : first p n at_ = e := by
 obtain ⟨a, b, c, d⟩ := h
 obtain ⟨a', b', c', d'⟩ := first_is p n at_ (by omega)
 rcases Nat.lt_trichotomy (first p n at_) e with hlt | heq | hgt
 ·have := c _ a' hlt
  rcases d' with h | h
  ·omega
  ·rw [h] at this; cases this
 ·exact heq
 ·have := c' _ a hgt
  rcases d with h | h
  ·omega
  ·rw [h] at this; cases this

def alnum (s : ByteArray) (k : Nat) : Bool := lowI (byt s k) || digI (byt s k)
def runE (s : ByteArray) (at_ : Nat) : Nat := first (fun j => !alnum s j) s.size at_
def noteE (s : ByteArray) (at_ : Nat) : Nat := first (fun j => byt s j == 10) s.size at_
def blankB (s : ByteArray) (k : Nat) : Bool := byt s k == 32 || byt s k == 10

theorem noteE_gt {s : ByteArray} {at_ : Nat} (h : at_ < s.size) (h35 : byt s at_ = 35) : at_ < noteE s at_ := by
 obtain ⟨a, b, c, d⟩ := first_is (fun j => byt s j == 10) s.size at_ (by omega)
 rcases Nat.lt_or_ge at_ (noteE s at_) with h1 | h1
 ·exact h1
 ·have e : noteE s at_ = at_ := by have : at_ ≤ noteE s at_ := a; omega
  have d' : noteE s at_ = s.size ∨ (byt s (noteE s at_) == 10) = true := d
  rw [e, h35] at d'
  simp at d'
  omega
theorem noteE_le {s : ByteArray} {at_ : Nat} (h : at_ ≤ s.size) : noteE s at_ ≤ s.size := (first_is _ _ _ h).2.1

def skipF (s : ByteArray) : Nat → Nat → Nat
 | 0, at_ => at_
 | f + 1, at_ => if at_ < s.size then (if blankB s at_ then skipF s f (at_ + 1) else if byt s at_ = 35 then skipF s f (noteE s at_) else at_) else at_
def skipI (s : ByteArray) (at_ : Nat) : Nat := skipF s (s.size - at_) at_
theorem skipF_fuel (s : ByteArray) (f g at_ : Nat) (hf : s.size - at_ ≤ f) (hg : s.size - at_ ≤ g) : skipF s f at_ = skipF s g at_ := by
 induction f generalizing g at_ with
 | zero =>
   cases g with
   | zero => rfl
   | succ g => simp only [skipF]; rw [if_neg (by omega)]
 | succ f ih =>
   cases g with
   | zero => simp only [skipF]; rw [if_neg (by omega)]
   | succ g =>
     simp only [skipF]
     by_cases h : at_ < s.size
     ·rw [if_pos h, if_pos h]
      by_cases hb : blankB s at_ = true
      ·rw [if_pos hb, if_pos hb]; exact ih g _ (by omega) (by omega)
      ·rw [if_neg hb, if_neg hb]
       by_cases h35 : byt s at_ = 35
       ·rw [if_pos h35, if_pos h35]
        have := noteE_gt h h35
        exact ih g _ (by omega) (by omega)
       ·rw [if_neg h35, if_neg h35]
     ·rw [if_neg h, if_neg h]
theorem skip_blank {s : ByteArray} {at_ : Nat} (h : at_ < s.size) (hb : blankB s at_ = true) : skipI s at_ = skipI s (at_ + 1) := by
 unfold skipI
 obtain ⟨f, hf⟩ : ∃ f, s.size - at_ = f + 1 := ⟨s.size - at_ - 1, by omega⟩
 rw [hf]; simp only [skipF]; rw [if_pos h, if_pos hb]
 exact skipF_fuel s _ _ _ (by omega) (by omega)
theorem skip_note {s : ByteArray} {at_ : Nat} (h : at_ < s.size) (h35 : byt s at_ = 35) : skipI s at_ = skipI s (noteE s at_) := by
 have hb : ¬ blankB s at_ = true := by unfold blankB; rw [h35]; decide
 unfold skipI
 obtain ⟨f, hf⟩ : ∃ f, s.size - at_ = f + 1 := ⟨s.size - at_ - 1, by omega⟩
 rw [hf]; simp only [skipF]; rw [if_pos h, if_neg hb, if_pos h35]
 have := noteE_gt h h35
 exact skipF_fuel s _ _ _ (by omega) (by omega)
theorem skip_stop {s : ByteArray} {at_ : Nat} (h : at_ < s.size) (hb : blankB s at_ = false) (h35 : byt s at_ ≠ 35) : skipI s at_ = at_ := by
 unfold skipI
 obtain ⟨f, hf⟩ : ∃ f, s.size - at_ = f + 1 := ⟨s.size - at_ - 1, by omega⟩
 rw [hf]; simp only [skipF]; rw [if_pos h, if_neg (by simp [hb]), if_neg h35]
theorem skip_end {s : ByteArray} {at_ : Nat} (h : ¬ at_ < s.size) : skipI s at_ = at_ := by
 unfold skipI
 rw [show s.size - at_ = 0 by omega]; rfl
theorem skip_ge (s : ByteArray) (at_ : Nat) : at_ ≤ skipI s at_ := by
 unfold skipI
 generalize hf : s.size - at_ = f
 induction f using Nat.strongRecOn generalizing at_ with
 | _ f ih =>
   by_cases h : at_ < s.size
   ·by_cases hb : blankB s at_ = true
    ·have e := skip_blank h hb
     unfold skipI at e
     rw [← hf, e]
     have := ih (s.size - (at_ + 1)) (by omega) (at_ + 1) rfl
     omega
    ·by_cases h35 : byt s at_ = 35
     ·have e := skip_note h h35
      have hg := noteE_gt h h35
      unfold skipI at e
      rw [← hf, e]
      have := ih (s.size - noteE s at_) (by omega) (noteE s at_) rfl
      omega
     ·have e := skip_stop h (by simpa using hb) h35
      unfold skipI at e
      rw [← hf, e]; exact Nat.le_refl _
   ·have e := skip_end h
    unfold skipI at e
    rw [← hf, e]; exact Nat.le_refl _
theorem skip_le {s : ByteArray} {at_ : Nat} (h : at_ ≤ s.size) : skipI s at_ ≤ s.size := by
 generalize hf : s.size - at_ = f
 induction f using Nat.strongRecOn generalizing at_ with
 | _ f ih =>
   by_cases h1 : at_ < s.size
   ·by_cases hb : blankB s at_ = true
    ·rw [skip_blank h1 hb]
     exact ih (s.size - (at_ + 1)) (by omega) (by omega) rfl
    ·by_cases h35 : byt s at_ = 35
     ·rw [skip_note h1 h35]
      have hg := noteE_gt h1 h35
      exact ih (s.size - noteE s at_) (by omega) (noteE_le h) rfl
     ·rw [skip_stop h1 (by simpa using hb) h35]; exact h
   ·rw [skip_end h1]; exact h
/-- Where that ends which could be a word at a place. -/
def endI (s : ByteArray) (at_ : Nat) : Nat := if alnum s at_ then runE s at_ else if at_ + 1 < s.size ∧ signB (s.extract at_ (at_ + 2)) = true then at_ + 2 else at_ + 1
theorem runE_gt {s : ByteArray} {at_ : Nat} (h : at_ < s.size) (ha : alnum s at_ = true) : at_ < runE s at_ := by
 obtain ⟨a, b, c, d⟩ := first_is (fun j => !alnum s j) s.size at_ (by omega)
 rcases Nat.lt_or_ge at_ (runE s at_) with h1 | h1
 ·exact h1
 ·have e : runE s at_ = at_ := by have : at_ ≤ runE s at_ := a; omega
  have d' : runE s at_ = s.size ∨ (!alnum s (runE s at_)) = true := d
  rw [e, ha] at d'
  simp at d'
  omega
theorem endI_gt {s : ByteArray} {at_ : Nat} (h : at_ < s.size) : at_ < endI s at_ ∧ endI s at_ ≤ s.size := by
 unfold endI
 split
 ·rename_i ha
  exact ⟨runE_gt h ha, (first_is _ _ _ (by omega)).2.1⟩
 ·split <;> omega

/-- The words from a place on, behind those that were read; code and place of the fault. -/
def scanF (s : ByteArray) : Nat → Nat → List W3 → List W3 × Int × Int
 | 0, _, acc => (acc, 0, 0)
 | f + 1, at_, acc => if at_ < s.size then
     (if kindI (s.extract at_ (endI s at_)) = 0 then ([], 2, at_) else if acc.length = 1500 then ([], 3, at_) else
      scanF s f (skipI s (endI s at_)) (acc ++ [⟨kindI (s.extract at_ (endI s at_)), s.extract at_ (endI s at_), at_⟩]))
   else (acc, 0, 0)
def scanI (s : ByteArray) (at_ : Nat) (acc : List W3) : List W3 × Int × Int := scanF s (s.size - at_) at_ acc
theorem scanF_fuel (s : ByteArray) (f g at_ : Nat) (acc : List W3) (hf : s.size - at_ ≤ f) (hg : s.size - at_ ≤ g) : scanF s f at_ acc = scanF s g at_ acc := by
 induction f generalizing g at_ acc with
 | zero =>
   cases g with
   | zero => rfl
   | succ g => simp only [scanF]; rw [if_neg (by omega)]
 | succ f ih =>
   cases g with
   | zero => simp only [scanF]; rw [if_neg (by omega)]
   | succ g =>
     simp only [scanF]
     by_cases h : at_ < s.size
     ·rw [if_pos h, if_pos h]
      have h1 := endI_gt h
      have h2 := skip_ge s (endI s at_)
      rw [ih g _ _ (by omega) (by omega)]
     ·rw [if_neg h, if_neg h]
theorem scan_end {s : ByteArray} {at_ : Nat} {acc : List W3} (h : ¬ at_ < s.size) : scanI s at_ acc = (acc, 0, 0) := by
 unfold scanI
 rw [show s.size - at_ = 0 by omega]; rfl
theorem scan_bad {s : ByteArray} {at_ : Nat} {acc : List W3} (h : at_ < s.size) (hk : kindI (s.extract at_ (endI s at_)) = 0) : scanI s at_ acc = ([], 2, (at_ : Int)) := by
 unfold scanI
 obtain ⟨f, hf⟩ : ∃ f, s.size - at_ = f + 1 := ⟨s.size - at_ - 1, by omega⟩
 rw [hf]; simp only [scanF]; rw [if_pos h, if_pos hk]
theorem scan_many {s : ByteArray} {at_ : Nat} {acc : List W3} (h : at_ < s.size) (hk : kindI (s.extract at_ (endI s at_)) ≠ 0) (hm : acc.length = 1500) : scanI s at_ acc = ([], 3, (at_ : Int)) := by
 unfold scanI
 obtain ⟨f, hf⟩ : ∃ f, s.size - at_ = f + 1 := ⟨s.size - at_ - 1, by omega⟩
 rw [hf]; simp only [scanF]; rw [if_pos h, if_neg hk, if_pos hm]
theorem scan_go {s : ByteArray} {at_ : Nat} {acc : List W3} (h : at_ < s.size) (hk : kindI (s.extract at_ (endI s at_)) ≠ 0) (hm : acc.length ≠ 1500) :
    scanI s at_ acc = scanI s (skipI s (endI s at_)) (acc ++ [⟨kindI (s.extract at_ (endI s at_)), s.extract at_ (endI s at_), at_⟩]) := by
 have h1 := endI_gt h
 have h2 := skip_ge s (endI s at_)
 unfold scanI
 obtain ⟨f, hf⟩ : ∃ f, s.size - at_ = f + 1 := ⟨s.size - at_ - 1, by omega⟩
 rw [hf]; simp only [scanF]; rw [if_pos h, if_neg hk, if_neg hm]
 exact scanF_fuel s _ _ _ _ (by omega) (by omega)
def wordsI (s : ByteArray) : List W3 × Int × Int := if 4000 < s.size then ([], 1, 0) else scanI s (skipI s 0) []
end Go.Proofs.YtedfnadgmhjojaaGreatDoor
