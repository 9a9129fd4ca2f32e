/-
  EDGES IN MEMORY: what it means that a slice holds a list of edges; CONTRACTS of szEdge, szEdgeS, szGraph.
  A GRAPH THAT CAME IN, opened.
  CONTRACTS of toEdge, toEdgeS, toGraph: the same graph in new memory.
  CONTRACTS of toEdgeS and toGraph.
  CONTRACTS of eqEdge, eqEdgeS, eqGraph where both hold the same graph.
  CONTRACTS of l01Between, isPoint and both GraphOks.
-/
import Derived.Test.YtedfnadgmhjojaaGreatDoorMScan
import Derived.Test.YtedfnadgmhjojaaGreatDoorMFormb
import Derived.ProofKit
import Derived.OpenShut
import Derived.ShutString
import Derived.ChangeOld
import Derived.Lib.SmallJoins
namespace Go.Proofs.YtedfnadgmhjojaaGreatDoor
open Go.RowKit

structure Ed where
 f : Int
 t : Int
 k : Int
 y : Bool
 n : T
def ebulk : List Ed → Nat
 | [] => 0
 | e :: r => bulk e.n + ebulk r
theorem ebulk_take {ks : List Ed} {i : Nat} {t : Ed} (h : ks[i]? = some t) : ebulk (ks.take (i + 1)) = ebulk (ks.take i) + bulk t.n := by
 induction ks generalizing i with
 | nil => simp at h
 | cons x r ih =>
   cases i with
   | zero => simp at h; subst h; simp [ebulk]
   | succ i =>
     simp at h
     have := ih h
     simp only [List.take_succ_cons, ebulk] at this ⊢
     omega
theorem ebulk_mem {ks : List Ed} {t : Ed} (h : t ∈ ks) : bulk t.n ≤ ebulk ks := by
 induction ks with
 | nil => cases h
 | cons x r ih =>
   simp only [ebulk]
   rcases List.mem_cons.1 h with rfl | h
   ·omega
   ·have := ih h; omega
def EdAt (w : World) (lo : Nat) (e : Ed) (b off : Nat) : Prop :=
 w.cell? ⟨b, off, none⟩ = some (.int .i64 e.f) ∧ w.cell? ⟨b, off + 1, none⟩ = some (.int .i64 e.t) ∧ w.cell? ⟨b, off + 2, none⟩ = some (.int .i64 e.k) ∧ w.cell? ⟨b, off + 3, none⟩ = some (.bool e.y) ∧ Lies w lo e.n b (off + 4)
def LiesG (w : World) (lo : Nat) (es : List Ed) (b off : Nat) : Prop := ∀ i e, es[i]? = some e → EdAt w lo e b (off + i * 8)
def KidsG (w : World) (lo : Nat) (a : Option Addr) (es : List Ed) : Prop := es = [] ∨ ∃ b' o', a = some ⟨b', o', none⟩ ∧ lo ≤ b' ∧ LiesG w lo es b' o'
theorem EdAt.stay {w w' : World} {lo : Nat} (h : ∀ b o, lo ≤ b → b < w.heap.size → w'.cell? ⟨b, o, none⟩ = w.cell? ⟨b, o, none⟩) {e : Ed} {b off : Nat} (hb : ∀ o, off ≤ o → o < off + 8 → w'.cell? ⟨b, o, none⟩ = w.cell? ⟨b, o, none⟩) (hl : EdAt w lo e b off) : EdAt w' lo e b off := by
 obtain ⟨h0, h1, h2, h3, h4⟩ := hl
 exact ⟨(hb _ (by omega) (by omega)).trans h0, (hb _ (by omega) (by omega)).trans h1, (hb _ (by omega) (by omega)).trans h2, (hb _ (by omega) (by omega)).trans h3, Lies.stay h _ _ _ (fun o h5 h6 => hb o (by omega) (by omega)) h4⟩
theorem EdAt.lower {w : World} {lo lo' : Nat} (h : lo' ≤ lo) {e : Ed} {b off : Nat} (hl : EdAt w lo e b off) : EdAt w lo' e b off := by
 obtain ⟨h0, h1, h2, h3, h4⟩ := hl
 exact ⟨h0, h1, h2, h3, Lies.lower h _ _ _ h4⟩
theorem LiesG.stay {w w' : World} {lo : Nat} (h : ∀ b o, lo ≤ b → b < w.heap.size → w'.cell? ⟨b, o, none⟩ = w.cell? ⟨b, o, none⟩) {es : List Ed} {b off : Nat} (hlo : lo ≤ b) (hl : LiesG w lo es b off) : LiesG w' lo es b off :=
 fun i e hi => (hl i e hi).stay h fun o _ _ => h b o hlo (World.block_lt_of_cell? w _ (hl i e hi).1)
theorem LiesG.lower {w : World} {lo lo' : Nat} (h : lo' ≤ lo) {es : List Ed} {b off : Nat} (hl : LiesG w lo es b off) : LiesG w lo' es b off := fun i e hi => (hl i e hi).lower h
theorem KidsG.stay {w w' : World} {lo : Nat} (h : ∀ b o, lo ≤ b → b < w.heap.size → w'.cell? ⟨b, o, none⟩ = w.cell? ⟨b, o, none⟩) {a : Option Addr} {es : List Ed} (hk : KidsG w lo a es) : KidsG w' lo a es := by
 rcases hk with hk | ⟨b', o', e, hlo, hk⟩
 ·exact .inl hk
 ·exact .inr ⟨b', o', e, hlo, hk.stay h hlo⟩
theorem KidsG.lower {w : World} {lo lo' : Nat} (h : lo' ≤ lo) {a : Option Addr} {es : List Ed} (hk : KidsG w lo a es) : KidsG w lo' a es := by
 rcases hk with hk | ⟨b', o', e, hlo, hk⟩
 ·exact .inl hk
 ·exact .inr ⟨b', o', e, Nat.le_trans h hlo, hk.lower h⟩
theorem KidsG.below {w w' : World} {lo : Nat} {a : Option Addr} {es : List Ed} (hk : KidsG w lo a es) (hb : Below w.heap.size w w') : KidsG w' lo a es := hk.stay fun b o _ h => hb.cell (p := ⟨b, o, none⟩) h
theorem LiesG.below {w w' : World} {lo b off : Nat} {es : List Ed} (hk : LiesG w lo es b off) (hlo : lo ≤ b) (hb : Below w.heap.size w w') : LiesG w' lo es b off := hk.stay (fun b o _ h => hb.cell (p := ⟨b, o, none⟩) h) hlo
/-- One edge of a list: its cells, and its node's own list. -/
theorem LiesG.at {w : World} {lo b off i : Nat} {es : List Ed} {f t k : Int} {y : Bool} {nk nm : Int} {ns : ByteArray} {kk : List T} (h : LiesG w lo es b off) (hi : es[i]? = some ⟨f, t, k, y, .node nk ns nm kk⟩) :
    ∃ (a : Option Addr) (c : Nat), w.cell? ⟨b, off + i * 8, none⟩ = some (.int .i64 f) ∧ w.cell? ⟨b, off + i * 8 + 1, none⟩ = some (.int .i64 t) ∧ w.cell? ⟨b, off + i * 8 + 2, none⟩ = some (.int .i64 k) ∧ w.cell? ⟨b, off + i * 8 + 3, none⟩ = some (.bool y) ∧
      w.cell? ⟨b, off + i * 8 + 4, none⟩ = some (.int .i64 nk) ∧ w.cell? ⟨b, off + i * 8 + 5, none⟩ = some (.string ns) ∧ w.cell? ⟨b, off + i * 8 + 6, none⟩ = some (.int .i64 nm) ∧ w.cell? ⟨b, off + i * 8 + 7, none⟩ = some (.slice a kk.length c) ∧
      ns.size ≤ maxLen ∧ kk.length ≤ maxLen ∧ Kids w lo a kk := by
 obtain ⟨h0, h1, h2, h3, h4⟩ := h i _ hi
 unfold Lies at h4
 obtain ⟨g0, g1, g2, hs, hn, a, c, g3, hk⟩ := h4
 exact ⟨a, c, h0, h1, h2, h3, g0, g1, g2, g3, hs, hn, hk⟩

set_option maxHeartbeats 400000 in
theorem szEdge_ok (f t k : Int) (y : Bool) (nk : Int) (s : ByteArray) (m : Int) (kk : List T) (a : Option Addr) (c : Nat) (n : Int) (w : World) (hs : s.size ≤ maxLen) (hn : kk.length ≤ maxLen) (hk : Kids w 0 a kk) (h0 : 0 ≤ n) (h1 : n ≤ 1048576) :
    Calls Tryz.prog 23 #[.agg #[.int .i64 f, .int .i64 t, .int .i64 k, .bool y, .int .i64 nk, .string s, .int .i64 m, .slice a kk.length c], .int .i64 n] w fun e w' =>
     (∃ r : Int, e = .returned (.int .i64 r) ∧ (r < 0 ∨ 0 ≤ r ∧ r + bulk (.node nk s m kk) = n)) ∧ Below w.heap.size w w' := by
 have HK := mkHid hk
 clear hk
 have HS := mkHid (And.intro hs hn)
 clear hs hn
 go_enter Tryz.func23, Tryz.ntmps23
 go_wp2_with fail
 refine (szNode_ok (.node nk s m kk) a c _ _ HS.out.1 HS.out.2 (HK.out.below ((Below.refl _ _).alloc (Nat.le_refl _) _)) (by omega) (by omega)).mono ?_
 rintro e w1 ⟨⟨m1, rfl, hm⟩, hb1⟩
 have HB1 := mkHid (below_step ((Below.refl _ _).alloc (Nat.le_refl _) _) hb1)
 have HM := mkHid hm
 clear hb1 hm
 by_cases hneg : m1 < 0
 ·go_wp2
  go_ret
  exact ⟨⟨_, rfl, .inl (by decide)⟩, HB1.out⟩
 ·go_wp2
  go_ret
  exact ⟨⟨_, rfl, HM.out⟩, HB1.out⟩

set_option maxHeartbeats 400000 in
theorem szEdgeS_of (es : List Ed) (b off c : Nat) (n : Int) (w : World) (hn : es.length ≤ maxLen) (hl : LiesG w 0 es b off) (h0 : 0 ≤ n) (h1 : n ≤ 1048576) :
    Calls Tryz.prog 9 #[.slice (some ⟨b, off, none⟩) es.length c, .int .i64 n] w fun e w' =>
     (∃ r : Int, e = .returned (.int .i64 r) ∧ (r < 0 ∨ 0 ≤ r ∧ r + es.length + ebulk es = n)) ∧ Below w.heap.size w w' := by
 unfold maxLen at hn
 have HL := mkHid hl
 clear hl
 by_cases h : n - (es.length : Int) < 0
 ·go_enter Tryz.func9, Tryz.ntmps9
  go_wp2
  go_ret
  exact ⟨⟨_, rfl, .inl (by decide)⟩, Below.refl _ _⟩
 ·go_enter Tryz.func9, Tryz.ntmps9
  go_wp2
  go_loopw [1, 5] (fun l i w' => ∃ (k : Nat) (r : Int), k ≤ es.length ∧ i = .int .i64 k ∧ l = .int .i64 r ∧ 0 ≤ r ∧ r + es.length + ebulk (es.take k) = n ∧ Below w.heap.size w w') (fun _ i _ => es.length - (intOf i).toNat)
  case atStart => exact ⟨0, _, Nat.zero_le _, rfl, rfl, by omega, by simp [ebulk], Below.refl _ _⟩
  case round =>
   obtain ⟨k, r, hk, rfl, rfl, hr0, hr1, hbel⟩ := hrel
   have HB := mkHid hbel
   have HR := mkHid hr1
   have hrn : r ≤ 1048576 := by omega
   clear hbel hr1
   by_cases hlt : k < es.length
   ·obtain ⟨x, hx⟩ : ∃ x, es[k]? = some x := ⟨_, List.getElem?_eq_getElem hlt⟩
    have HX := mkHid hx
    obtain ⟨xf, xt, xe, xy, ⟨xk, xs, xm, xkk⟩⟩ := x
    obtain ⟨xa, xc, hc0, hc1, hc2, hc3, hc4, hc5, hc6, hc7, hs, hkn, hkids⟩ := (HL.out.below (Nat.zero_le _) HB.out).at hx
    have HC := mkHid (szEdge_ok xf xt xe xy xk xs xm xkk xa xc r wr hs hkn hkids hr0 hrn)
    clear hx hs hkn hkids
    go_wp2_with fail
    refine HC.out.mono ?_
    rintro e w1 ⟨⟨m1, rfl, hm⟩, hb1⟩
    have HB1 := mkHid (HB.out.trans (hb1.mono HB.out.size))
    have HM := mkHid hm
    clear hb1 hm HC
    by_cases hneg : m1 < 0
    ·go_wp2
     go_ret
     exact ⟨⟨_, rfl, .inl (by decide)⟩, HB1.out⟩
    ·go_wp2
     go_roundw
     case rel =>
      have h2 := HM.out
      have h3 := HR.out
      have h4 := ebulk_take HX.out
      dsimp only at h4
      exact ⟨k + 1, m1, by omega, by go_num, rfl, by omega, by omega, HB1.out⟩
     case measure => simp [intOf]; omega
   ·go_wp2
    go_ret
    have h3 := HR.out
    rw [List.take_of_length_le (by omega)] at h3
    exact ⟨⟨_, rfl, .inr ⟨hr0, h3⟩⟩, HB.out⟩

set_option maxHeartbeats 400000 in
theorem szEdgeS_nil (a : Option Addr) (c : Nat) (n : Int) (w : World) (h0 : 0 ≤ n) (h1 : n ≤ 1048576) :
    Calls Tryz.prog 9 #[.slice a 0 c, .int .i64 n] w fun e w' => (∃ r : Int, e = .returned (.int .i64 r) ∧ (r < 0 ∨ 0 ≤ r ∧ r = n)) ∧ Below w.heap.size w w' := by
 go_enter Tryz.func9, Tryz.ntmps9
 go_wp2
 go_loopw [1, 5] (fun l i w' => i = .int .i64 0 ∧ l = .int .i64 n ∧ w' = w) (fun _ i _ => 0)
 case atStart => exact ⟨rfl, by go_num, rfl⟩
 case round =>
  obtain ⟨rfl, rfl, rfl⟩ := hrel
  go_wp2
  go_ret
  exact ⟨⟨_, rfl, .inr ⟨h0, rfl⟩⟩, Below.refl _ _⟩

set_option maxHeartbeats 400000 in
theorem szGraph_ok (p : Int) (es : List Ed) (a : Option Addr) (c : Nat) (n : Int) (w : World) (hn : es.length ≤ maxLen) (hl : KidsG w 0 a es) (h0 : 0 ≤ n) (h1 : n ≤ 1048576) :
    Calls Tryz.prog 4 #[.agg #[.int .i64 p, .slice a es.length c], .int .i64 n] w fun e w' =>
     (∃ r : Int, e = .returned (.int .i64 r) ∧ (r < 0 ∨ 0 ≤ r ∧ r + es.length + ebulk es = n)) ∧ Below w.heap.size w w' := by
 have HK := mkHid hl
 clear hl
 have HS := mkHid hn
 clear hn
 have HC : ∀ w1 : World, KidsG w1 0 a es → Calls Tryz.prog 9 #[.slice a es.length c, .int .i64 n] w1 fun e w' =>
     (∃ r : Int, e = .returned (.int .i64 r) ∧ (r < 0 ∨ 0 ≤ r ∧ r + es.length + ebulk es = n)) ∧ Below w1.heap.size w1 w' := by
  intro w1 h
  rcases h with rfl | ⟨b, o, rfl, _, hl⟩
  ·refine (szEdgeS_nil a c n w1 h0 h1).mono ?_
   rintro e w' ⟨⟨r, rfl, h⟩, hb⟩
   exact ⟨⟨r, rfl, by simpa [ebulk] using h⟩, hb⟩
  ·exact szEdgeS_of es b o c n w1 HS.out hl h0 h1
 have HC := mkHid HC
 go_enter Tryz.func4, Tryz.ntmps4
 go_wp2_with fail
 refine (HC.out _ (HK.out.below ((Below.refl _ _).alloc (Nat.le_refl _) _))).mono ?_
 rintro e w1 ⟨⟨m1, rfl, hm⟩, hb1⟩
 have HB1 := mkHid (below_step ((Below.refl _ _).alloc (Nat.le_refl _) _) hb1)
 have HM := mkHid hm
 clear hb1 hm
 by_cases hneg : m1 < 0
 ·go_wp2
  go_ret
  exact ⟨⟨_, rfl, .inl (by decide)⟩, HB1.out⟩
 ·go_wp2
  go_ret
  exact ⟨⟨_, rfl, HM.out⟩, HB1.out⟩
end Go.Proofs.YtedfnadgmhjojaaGreatDoor
namespace Go.Proofs.YtedfnadgmhjojaaGreatDoor
open Go.ChangeShapes Go.WideShapes Go.ChangeAt Go.RowKit Go.Joins Go.Deep

theorem Tryz.cells59 : Tryz.prog.cellsOf 59 = 8 := by kernel_rfl
theorem Tryz.cells24 : Tryz.prog.cellsOf 24 = 2 := by kernel_rfl
theorem Tryz.cells4 : Tryz.prog.cellsOf 4 = 1 := by kernel_rfl
theorem trod_struct5 {H : Type} {enc : TypeId × Value → H} {P : Program} {w : World} {base : Nat} {spare : Nat → Bool} {held : Bool} {t : TypeId} {f0 f1 f2 f3 f4 : Field} {fuel : Nat} {cs : List Value} {x : DataW H × List MemPlace} (ht : P.underlying t = some (.struct #[f0, f1, f2, f3, f4])) (h : DataW.trod enc P w base spare held fuel t cs = some x) :
    ∃ y0 y1 y2 y3 y4 n, x.1 = .agg [y0.1, y1.1, y2.1, y3.1, y4.1] ∧ cs.length = P.cellsOf t ∧ DataW.trod enc P w base spare held n f0.type ((cs.drop f0.offset).take (P.cellsOf f0.type)) = some y0 ∧
      DataW.trod enc P w base spare held n f1.type ((cs.drop f1.offset).take (P.cellsOf f1.type)) = some y1 ∧ DataW.trod enc P w base spare held n f2.type ((cs.drop f2.offset).take (P.cellsOf f2.type)) = some y2 ∧
      DataW.trod enc P w base spare held n f3.type ((cs.drop f3.offset).take (P.cellsOf f3.type)) = some y3 ∧ DataW.trod enc P w base spare held n f4.type ((cs.drop f4.offset).take (P.cellsOf f4.type)) = some y4 := by
 obtain ⟨xs, n, _, rfl, hl, hlen, hf⟩ := DataW.trod_struct ht h
 match xs, hlen with
 | [y0, y1, y2, y3, y4], _ => exact ⟨y0, y1, y2, y3, y4, n, by simp, hl, by simpa using hf 0 f0 rfl, by simpa using hf 1 f1 rfl, by simpa using hf 2 f2 rfl, by simpa using hf 3 f3 rfl, by simpa using hf 4 f4 rfl⟩
theorem list_of_fnE (f : Nat → Ed) (n : Nat) : ∃ ws : List Ed, ws.length = n ∧ ∀ i x, ws[i]? = some x → i < n ∧ x = f i := by
 refine ⟨(List.range n).map f, by simp, fun i x hx => ?_⟩
 obtain ⟨hi, e⟩ := List.getElem?_eq_some_iff.1 hx
 simp at hi e
 exact ⟨hi, e.symm⟩
set_option maxRecDepth 100000 in
theorem open_edges {H : Type} {enc : TypeId × Value → H} {W : World} {n : Nat} {v : Value} {x : DataW H × List MemPlace} (h : DataW.trod enc Tryz.prog W 0 (fun _ => true) true n 22 [v] = some x) :
    ∃ (a : Option Addr) (c : Nat) (es : List Ed), v = .slice a es.length c ∧ es.length ≤ maxLen ∧ KidsG W 0 a es := by
 rcases open_slice Tryz.underlying22 h with ⟨hcs, _⟩ | ⟨ad, len, cap, m', n2, D, Pl, hcs, _, hl, hm, hmm, hy, hall⟩
 ·simp at hcs
  subst hcs
  exact ⟨none, 0, [], rfl, by simp, .inl rfl⟩
 ·simp at hcs
  subst hcs
  simp only [if_true] at hmm
  rw [Tryz.cells59] at hall
  by_cases h0 : len = 0
  ·subst h0
   exact ⟨some ad, cap, [], rfl, by simp, .inl rfl⟩
  have one : ∀ i, i < len → ∃ (f t e : Int) (y : Bool) (k : Int) (s : ByteArray) (mm : Int) (a : Option Addr) (c : Nat) (kk : List T), W.cells? 0 (ad.add (i * 8)) 8 = some [.int .i64 f, .int .i64 t, .int .i64 e, .bool y, .int .i64 k, .string s, .int .i64 mm, .slice a kk.length c] ∧ s.size ≤ maxLen ∧ kk.length ≤ maxLen ∧ Kids W 0 a kk := by
   intro i hi
   obtain ⟨cs', q1, q2⟩ := hall i (by omega)
   obtain ⟨y0, y1, y2, y3, y4, n', hx, hlen, h0, h1, h2, h3, h4⟩ := trod_struct5 Tryz.underlying59 q2
   rw [Tryz.cells59] at hlen
   match cs', hlen with
   | [c0, c1, c2, c3, c4, c5, c6, c7], _ =>
     simp [Tryz.cells3, Tryz.cells4, Tryz.cells57] at h0 h1 h2 h3 h4
     obtain ⟨x0, e0, _, _⟩ := DataW.trod_int Tryz.underlying3 h0
     obtain ⟨x1, e1, _, _⟩ := DataW.trod_int Tryz.underlying3 h1
     obtain ⟨x2, e2, _, _⟩ := DataW.trod_int Tryz.underlying3 h2
     obtain ⟨x3, e3, _⟩ := DataW.trod_bool Tryz.underlying4 h3
     simp at e0 e1 e2 e3
     subst e0 e1 e2 e3
     obtain ⟨z0, z1, z2, z3, n'', hx', hlen', g0, g1, g2, g3⟩ := trod_struct4 Tryz.underlying57 h4
     simp [Tryz.cells3, Tryz.cells9, Tryz.cells55] at g0 g1 g2 g3
     obtain ⟨x4, e4, _, _⟩ := DataW.trod_int Tryz.underlying3 g0
     obtain ⟨x5, e5, _, hs⟩ := DataW.trod_string Tryz.underlying9 g1
     obtain ⟨x6, e6, _, _⟩ := DataW.trod_int Tryz.underlying3 g2
     simp at e4 e5 e6
     subst e4 e5 e6
     obtain ⟨a, c, kk, rfl, hn, hk⟩ := open_kids _ (Nat.lt_succ_self _) g3
     exact ⟨x0, x1, x2, x3, x4, x5, x6, a, c, kk, q1, hs, hn, hk⟩
  have hsp : ad.spot = none := by
   obtain ⟨_, _, _, _, _, _, _, _, _, _, q1, _⟩ := one 0 (by omega)
   obtain ⟨_, _, hc⟩ := World.cells?_some q1
   have := World.cell?_spot (hc 0 (by omega))
   simpa [Addr.add] using this
  obtain ⟨b, off, spot⟩ := ad
  simp only at hsp
  subst hsp
  have each : ∀ i, i < len → ∃ e : Ed, EdAt W 0 e b (off + i * 8) := by
   intro i hi
   obtain ⟨f, t, e, y, k, s, mm, a, c, kk, q1, hs', hn', hk⟩ := one i hi
   obtain ⟨_, _, hc⟩ := World.cells?_some q1
   have g0 := hc 0 (by omega)
   have g1 := hc 1 (by omega)
   have g2 := hc 2 (by omega)
   have g3 := hc 3 (by omega)
   have g4 := hc 4 (by omega)
   have g5 := hc 5 (by omega)
   have g6 := hc 6 (by omega)
   have g7 := hc 7 (by omega)
   rw [add_plain, add_plain] at g0 g1 g2 g3 g4 g5 g6 g7
   refine ⟨⟨f, t, e, y, .node k s mm kk⟩, g0, g1, g2, g3, ?_⟩
   unfold Lies
   exact ⟨g4, g5, g6, hs', hn', a, c, g7, hk⟩
  have inh : Inhabited Ed := ⟨⟨0, 0, 0, false, .node 0 ⟨#[]⟩ 0 []⟩⟩
  obtain ⟨f, hf'⟩ := choose_lt each
  obtain ⟨ws, hwl, hws⟩ := list_of_fnE f len
  refine ⟨some ⟨b, off, none⟩, cap, ws, by rw [hwl], by omega, .inr ⟨b, off, rfl, Nat.zero_le _, fun i t ht => ?_⟩⟩
  obtain ⟨hi, rfl⟩ := hws i t ht
  exact hf' i hi
end Go.Proofs.YtedfnadgmhjojaaGreatDoor
namespace Go.Proofs.YtedfnadgmhjojaaGreatDoor
open Go.RowKit

def EdAt0 (w : World) (lo : Nat) (e : Ed) (b off : Nat) : Prop :=
 w.cell? ⟨b, off, none⟩ = some (.int .i64 e.f) ∧ w.cell? ⟨b, off + 1, none⟩ = some (.int .i64 e.t) ∧ w.cell? ⟨b, off + 2, none⟩ = some (.int .i64 e.k) ∧ w.cell? ⟨b, off + 3, none⟩ = some (.bool e.y) ∧ Lies0 w lo e.n b (off + 4)
def Kids0G (w : World) (lo : Nat) (a : Option Addr) (es : List Ed) : Prop := es = [] ∨ ∃ b', a = some ⟨b', 0, none⟩ ∧ lo ≤ b' ∧ (∀ o, w.frozen? ⟨b', o, none⟩ = false) ∧ ∀ i e, es[i]? = some e → EdAt0 w (b' + 1) e b' (i * 8)
theorem EdAt0.stay {w w' : World} {lo : Nat} (h : ∀ b o, lo ≤ b → b < w.heap.size → w'.cell? ⟨b, o, none⟩ = w.cell? ⟨b, o, none⟩ ∧ w'.frozen? ⟨b, o, none⟩ = w.frozen? ⟨b, o, none⟩) {e : Ed} {b off : Nat} (hb : ∀ o, off ≤ o → o < off + 8 → w'.cell? ⟨b, o, none⟩ = w.cell? ⟨b, o, none⟩) (hl : EdAt0 w lo e b off) : EdAt0 w' lo e b off := by
 obtain ⟨h0, h1, h2, h3, h4⟩ := hl
 exact ⟨(hb _ (by omega) (by omega)).trans h0, (hb _ (by omega) (by omega)).trans h1, (hb _ (by omega) (by omega)).trans h2, (hb _ (by omega) (by omega)).trans h3, Lies0.stay h _ _ _ (fun o h5 h6 => hb o (by omega) (by omega)) h4⟩
theorem EdAt0.plain {w : World} {lo : Nat} {e : Ed} {b off : Nat} (hl : EdAt0 w lo e b off) : EdAt w lo e b off := by
 obtain ⟨h0, h1, h2, h3, h4⟩ := hl
 exact ⟨h0, h1, h2, h3, Lies0.plain _ _ _ h4⟩
theorem Kids0G.plain {w : World} {lo : Nat} {a : Option Addr} {es : List Ed} (hk : Kids0G w lo a es) : KidsG w lo a es := by
 rcases hk with hk | ⟨b', e, hlo, hf, hk⟩
 ·exact .inl hk
 ·exact .inr ⟨b', 0, e, hlo, fun i x hx => by rw [Nat.zero_add]; exact (hk i x hx).plain.lower (by omega)⟩
theorem Kids0G.lower {w : World} {lo lo' : Nat} (h : lo' ≤ lo) {a : Option Addr} {es : List Ed} (hk : Kids0G w lo a es) : Kids0G w lo' a es := by
 rcases hk with hk | ⟨b', e, hlo, hf, hk⟩
 ·exact .inl hk
 ·exact .inr ⟨b', e, Nat.le_trans h hlo, hf, hk⟩
theorem Kids0G.stay {w w' : World} {lo : Nat} (h : ∀ b o, lo ≤ b → b < w.heap.size → w'.cell? ⟨b, o, none⟩ = w.cell? ⟨b, o, none⟩ ∧ w'.frozen? ⟨b, o, none⟩ = w.frozen? ⟨b, o, none⟩) {a : Option Addr} {es : List Ed} (hk : Kids0G w lo a es) : Kids0G w' lo a es := by
 rcases hk with hk | ⟨b', e, hlo, hf, hk⟩
 ·exact .inl hk
 ·cases hes : es with
  | nil => exact .inl rfl
  | cons x r =>
    have hb' : b' < w.heap.size := World.block_lt_of_cell? w _ (hk 0 x (by rw [hes]; rfl)).1
    rw [← hes]
    exact .inr ⟨b', e, hlo, fun o => (h b' o hlo hb').2.trans (hf o), fun i x hx => (hk i x hx).stay (fun b o hb h1 => h b o (by omega) h1) (fun o _ _ => (h b' o hlo hb').1)⟩
theorem Kids0G.below {w w' : World} {lo : Nat} {a : Option Addr} {es : List Ed} (hk : Kids0G w lo a es) (hb : Below w.heap.size w w') : Kids0G w' lo a es := hk.stay fun b o _ h => below_both hb b o h

set_option maxHeartbeats 1600000 in
theorem toEdge_ok (f t k : Int) (y : Bool) (nk : Int) (s : ByteArray) (m : Int) (kk : List T) (a : Option Addr) (c : Nat) (w : World) (hn : bulk (.node nk s m kk) ≤ 1048576) (hk : Kids w 0 a kk) :
    Calls Tryz.prog 31 #[.agg #[.int .i64 f, .int .i64 t, .int .i64 k, .bool y, .int .i64 nk, .string s, .int .i64 m, .slice a kk.length c]] w fun e w' =>
     (∃ a' c', e = .returned (.agg #[.int .i64 f, .int .i64 t, .int .i64 k, .bool y, .int .i64 nk, .string s, .int .i64 m, .slice a' kk.length c']) ∧ Kids0 w' w.heap.size a' kk ∧ kk.length ≤ c' ∧ c' ≤ maxLen) ∧ Below w.heap.size w w' := by
 have HN := mkHid hn
 have HK := mkHid hk
 clear hn hk
 go_enter Tryz.func31, Tryz.ntmps31
 go_wp2_with fail
 refine (toNode_ok (.node nk s m kk) a c _ HN.out (HK.out.below ?_)).mono ?_
 ·exact (((Below.refl w.heap.size w).alloc (Nat.le_refl _) _).alloc (by simp) _).alloc (by simp; omega) _
 rintro e w1 ⟨⟨a', c', rfl, hk', hcap⟩, hb1⟩
 have HCP := mkHid hcap
 clear hcap
 obtain ⟨hc, hf⟩ := bcell hb1
 have HK' := mkHid (hk'.lower (lo' := w.heap.size + 3) (by simp))
 have HB := mkHid (below_step ((((Below.refl w.heap.size w).alloc (Nat.le_refl _) _).alloc (by simp) _).alloc (by simp; omega) _) hb1)
 clear hk' hb1
 have c0 := (hc (w.heap.size + 1 + 1) 0 (by simp)).trans (show _ = some (Value.int .i64 f) by simp [go_sem])
 have c1 := (hc (w.heap.size + 1 + 1) 1 (by simp)).trans (show _ = some (Value.int .i64 t) by simp [go_sem])
 have c2 := (hc (w.heap.size + 1 + 1) 2 (by simp)).trans (show _ = some (Value.int .i64 k) by simp [go_sem])
 have c3 := (hc (w.heap.size + 1 + 1) 3 (by simp)).trans (show _ = some (Value.bool y) by simp [go_sem])
 have c4 := (hc (w.heap.size + 1 + 1) 4 (by simp)).trans (show _ = some (Value.int .i64 0) by simp [go_sem])
 have f4 := (hf (w.heap.size + 1 + 1) 4 (by simp)).trans (show _ = false by simp [go_sem])
 have c5 := (hc (w.heap.size + 1 + 1) 5 (by simp)).trans (show _ = some (Value.string ⟨#[]⟩) by simp [go_sem])
 have f5 := (hf (w.heap.size + 1 + 1) 5 (by simp)).trans (show _ = false by simp [go_sem])
 have c6 := (hc (w.heap.size + 1 + 1) 6 (by simp)).trans (show _ = some (Value.int .i64 0) by simp [go_sem])
 have f6 := (hf (w.heap.size + 1 + 1) 6 (by simp)).trans (show _ = false by simp [go_sem])
 have c7 := (hc (w.heap.size + 1 + 1) 7 (by simp)).trans (show _ = some (Value.slice none 0 0) by simp [go_sem])
 have f7 := (hf (w.heap.size + 1 + 1) 7 (by simp)).trans (show _ = false by simp [go_sem])
 have d0 := (hc (w.heap.size + 1) 0 (by simp)).trans (show _ = some (Value.int .i64 0) by simp [go_sem])
 have g0 := (hf (w.heap.size + 1) 0 (by simp)).trans (show _ = false by simp [go_sem])
 have d1 := (hc (w.heap.size + 1) 1 (by simp)).trans (show _ = some (Value.int .i64 0) by simp [go_sem])
 have g1 := (hf (w.heap.size + 1) 1 (by simp)).trans (show _ = false by simp [go_sem])
 have d2 := (hc (w.heap.size + 1) 2 (by simp)).trans (show _ = some (Value.int .i64 0) by simp [go_sem])
 have g2 := (hf (w.heap.size + 1) 2 (by simp)).trans (show _ = false by simp [go_sem])
 have d3 := (hc (w.heap.size + 1) 3 (by simp)).trans (show _ = some (Value.bool false) by simp [go_sem])
 have g3 := (hf (w.heap.size + 1) 3 (by simp)).trans (show _ = false by simp [go_sem])
 have d4 := (hc (w.heap.size + 1) 4 (by simp)).trans (show _ = some (Value.int .i64 0) by simp [go_sem])
 have g4 := (hf (w.heap.size + 1) 4 (by simp)).trans (show _ = false by simp [go_sem])
 have d5 := (hc (w.heap.size + 1) 5 (by simp)).trans (show _ = some (Value.string ⟨#[]⟩) by simp [go_sem])
 have g5 := (hf (w.heap.size + 1) 5 (by simp)).trans (show _ = false by simp [go_sem])
 have d6 := (hc (w.heap.size + 1) 6 (by simp)).trans (show _ = some (Value.int .i64 0) by simp [go_sem])
 have g6 := (hf (w.heap.size + 1) 6 (by simp)).trans (show _ = false by simp [go_sem])
 have d7 := (hc (w.heap.size + 1) 7 (by simp)).trans (show _ = some (Value.slice none 0 0) by simp [go_sem])
 have g7 := (hf (w.heap.size + 1) 7 (by simp)).trans (show _ = false by simp [go_sem])
 clear hc hf
 go_wp2
 refine bodyPost_ret (v := .agg #[.int .i64 f, .int .i64 t, .int .i64 k, .bool y, .int .i64 nk, .string s, .int .i64 m, .slice a' kk.length c']) (by simp [results, Tryz.results31, go_sem, d0, d1, d2, d3, d4, d5, d6, d7]) rfl ⟨⟨a', c', rfl, ?_, HCP.out⟩, ?_⟩
 ·refine (HK'.out.stay fun b o hb _ => ⟨?_, by simp⟩).lower (by omega)
  rw [World.cell?_setCell_far _ _ _ _ (by simp; omega), World.cell?_setCell_far _ _ _ _ (by simp; omega), World.cell?_setCell_far _ _ _ _ (by simp; omega), World.cell?_setCell_far _ _ _ _ (by simp; omega), World.cell?_setCell_far _ _ _ _ (by simp; omega), World.cell?_setCell_far _ _ _ _ (by simp; omega), World.cell?_setCell_far _ _ _ _ (by simp; omega), World.cell?_setCell_far _ _ _ _ (by simp; omega), World.cell?_setCell_far _ _ _ _ (by simp; omega), World.cell?_setCell_far _ _ _ _ (by simp; omega), World.cell?_setCell_far _ _ _ _ (by simp; omega), World.cell?_setCell_far _ _ _ _ (by simp; omega)]
 ·exact ((((((((((((HB.out.setCell (p := ⟨w.heap.size + 1 + 1, 4, none⟩) (by simp; omega) _).setCell (p := ⟨w.heap.size + 1 + 1, 5, none⟩) (by simp; omega) _).setCell (p := ⟨w.heap.size + 1 + 1, 6, none⟩) (by simp; omega) _).setCell (p := ⟨w.heap.size + 1 + 1, 7, none⟩) (by simp; omega) _).setCell (p := ⟨w.heap.size + 1, 0, none⟩) (by simp) _).setCell (p := ⟨w.heap.size + 1, 1, none⟩) (by simp) _).setCell (p := ⟨w.heap.size + 1, 2, none⟩) (by simp) _).setCell (p := ⟨w.heap.size + 1, 3, none⟩) (by simp) _).setCell (p := ⟨w.heap.size + 1, 4, none⟩) (by simp) _).setCell (p := ⟨w.heap.size + 1, 5, none⟩) (by simp) _).setCell (p := ⟨w.heap.size + 1, 6, none⟩) (by simp) _).setCell (p := ⟨w.heap.size + 1, 7, none⟩) (by simp) _)
end Go.Proofs.YtedfnadgmhjojaaGreatDoor
namespace Go.Proofs.YtedfnadgmhjojaaGreatDoor
open Go.RowKit

theorem Tryz.info40 : (Tryz.prog.info? 40).map (fun i => (i.zero, i.size, i.bytes)) = some (some (.agg #[.int .i64 0, .int .i64 0, .int .i64 0, .bool false, .int .i64 0, .string ByteArray.empty, .int .i64 0, .slice none 0 0]), 8, 88) := by kernel_rfl
def gput8 (w : World) (g o : Nat) (v0 v1 v2 v3 v4 v5 v6 v7 : Value) : World := (((((((w.setCell ⟨g, o, none⟩ v0).setCell ⟨g, o + 1, none⟩ v1).setCell ⟨g, o + 2, none⟩ v2).setCell ⟨g, o + 3, none⟩ v3).setCell ⟨g, o + 4, none⟩ v4).setCell ⟨g, o + 5, none⟩ v5).setCell ⟨g, o + 6, none⟩ v6).setCell ⟨g, o + 7, none⟩ v7
theorem put8_stay {w : World} {g o : Nat} {v0 v1 v2 v3 v4 v5 v6 v7 : Value} {b j : Nat} (h : b ≠ g ∨ j < o ∨ o + 8 ≤ j) : (gput8 w g o v0 v1 v2 v3 v4 v5 v6 v7).cell? ⟨b, j, none⟩ = w.cell? ⟨b, j, none⟩ := by
 unfold gput8
 rw [World.cell?_setCell_other, World.cell?_setCell_other, World.cell?_setCell_other, World.cell?_setCell_other, World.cell?_setCell_other, World.cell?_setCell_other, World.cell?_setCell_other, World.cell?_setCell_other] <;> (intro e; injection e with e1 e2; omega)
theorem put8_both {w : World} {g o : Nat} {v0 v1 v2 v3 v4 v5 v6 v7 : Value} {b j : Nat} (h : b ≠ g) : (gput8 w g o v0 v1 v2 v3 v4 v5 v6 v7).cell? ⟨b, j, none⟩ = w.cell? ⟨b, j, none⟩ ∧ (gput8 w g o v0 v1 v2 v3 v4 v5 v6 v7).frozen? ⟨b, j, none⟩ = w.frozen? ⟨b, j, none⟩ :=
 ⟨put8_stay (.inl h), by unfold gput8; simp⟩

set_option maxHeartbeats 1600000 in
theorem toEdgeS_of (es : List Ed) (b off c : Nat) (w : World) (hn : es.length + ebulk es ≤ 1048576) (hl : LiesG w 0 es b off) :
    Calls Tryz.prog 14 #[.slice (some ⟨b, off, none⟩) es.length c] w fun e w' =>
     (∃ a' c', e = .returned (.slice a' es.length c') ∧ Kids0G w' w.heap.size a' es ∧ es.length ≤ c' ∧ c' ≤ maxLen) ∧ Below w.heap.size w w' := by
 obtain ⟨i0, hi, hz⟩ := Option.map_eq_some_iff.1 Tryz.info40
 simp only [Prod.mk.injEq] at hz
 obtain ⟨hz0, hz1, hz2⟩ := hz
 obtain ⟨w1, hmk, hown0, hg0⟩ := run_make_full (P := Tryz.prog) w w.heap.size 27 40 i0 _ 8 Tryz.underlying27 hi hz0 hz1 .i64 .i64 es.length (by rw [hz2]; omega) (by unfold maxLen; omega) (Nat.le_refl _)
 have hsz : es.length ≤ 1048576 := by omega
 have HN := mkHid hn
 have HL := mkHid hl
 have HO := mkHid hown0
 have HG := mkHid (Below.grown (Below.refl w.heap.size w) hg0 (Nat.le_refl _) (fun k hk => by cases hk))
 clear hl hown0 hg0 hi hz0 hz1 hz2 hn
 go_enter Tryz.func14, Tryz.ntmps14
 go_wp2
 go_loopw [4] (fun i w' => ∃ (k : Nat) (xs : List Value), k ≤ es.length ∧ i = .int .i64 k ∧ w'.ownsRow w.heap.size 40 8 (.slice (some ⟨w.heap.size, 0, none⟩) es.length es.length) es.length xs ∧
  (∀ j t, j < k → es[j]? = some t → EdAt0 w' (w.heap.size + 1) t w.heap.size (j * 8)) ∧ Below w.heap.size w w') (fun i _ => es.length - (intOf i).toNat)
 case atStart => exact ⟨0, _, Nat.zero_le _, rfl, HO.out, fun j t hj => by omega, HG.out⟩
 case round =>
  obtain ⟨k, xs, hk, rfl, hown, hdone, hbel⟩ := hrel
  have HW := mkHid hown
  have HD := mkHid hdone
  have HB := mkHid hbel
  clear hown hdone hbel HO HG hmk
  by_cases hlt : k < es.length
  ·obtain ⟨x, hx⟩ : ∃ x, es[k]? = some x := ⟨_, List.getElem?_eq_getElem hlt⟩
   have HX := mkHid hx
   obtain ⟨xf, xt, xe, xy, ⟨xk, xs', xm, xkk⟩⟩ := x
   obtain ⟨xa, xc, hc0, hc1, hc2, hc3, hc4, hc5, hc6, hc7, hs, hkn, hkids⟩ := (HL.out.below (Nat.zero_le _) HB.out).at hx
   have HC := mkHid (toEdge_ok xf xt xe xy xk xs' xm xkk xa xc wr (by have := ebulk_mem (List.mem_of_getElem? hx); dsimp only at this; have := HN.out; omega) hkids)
   have HS := mkHid (And.intro hs hkn)
   have hgr : w.heap.size < wr.heap.size := by
    obtain ⟨_, h | ⟨g, cap, cur, h, _, hg, _⟩⟩ := HW.out
    ·cases h.1
    ·simp at h
     obtain ⟨⟨rfl⟩, _⟩ := h
     exact (Array.getElem?_eq_some_iff.1 hg).1
   have HGR := mkHid hgr
   clear hx hs hkn hkids hgr
   go_wp2_with fail
   refine HC.out.mono ?_
   rintro e w2 ⟨⟨a', c', rfl, hk', hcap⟩, hb2⟩
   have HCP := mkHid hcap
   have HK := mkHid hk'
   have HW2 := mkHid (owns_below HW.out hb2)
   have HD2 : Hid (∀ j t, j < k → es[j]? = some t → EdAt0 w2 (w.heap.size + 1) t w.heap.size (j * 8)) := mkHid fun j t hj ht => (HD.out j t hj ht).stay (fun b o _ h => below_both hb2 b o h) (fun o _ _ => hb2.cell (p := ⟨_, o, none⟩) HGR.out)
   have HB2 := mkHid (HB.out.trans (hb2.mono HB.out.size))
   clear hb2 hc0 hc1 hc2 hc3 hc4 hc5 hc6 hc7 hk' HC HD hcap
   have hxl := HW2.out.1
   obtain ⟨v0, c0⟩ : ∃ v, w2.cell? ⟨w.heap.size, k * 8, none⟩ = some v := ⟨_, (HW2.out.cellAt (k * 8) (by omega)).trans (List.getElem?_eq_getElem (by omega))⟩
   obtain ⟨v1, c1⟩ : ∃ v, w2.cell? ⟨w.heap.size, k * 8 + 1, none⟩ = some v := ⟨_, (HW2.out.cellAt (k * 8 + 1) (by omega)).trans (List.getElem?_eq_getElem (by omega))⟩
   obtain ⟨v2, c2⟩ : ∃ v, w2.cell? ⟨w.heap.size, k * 8 + 1 + 1, none⟩ = some v := ⟨_, (HW2.out.cellAt (k * 8 + 1 + 1) (by omega)).trans (List.getElem?_eq_getElem (by omega))⟩
   obtain ⟨v3, c3⟩ : ∃ v, w2.cell? ⟨w.heap.size, k * 8 + 1 + 1 + 1, none⟩ = some v := ⟨_, (HW2.out.cellAt (k * 8 + 1 + 1 + 1) (by omega)).trans (List.getElem?_eq_getElem (by omega))⟩
   obtain ⟨v4, c4⟩ : ∃ v, w2.cell? ⟨w.heap.size, k * 8 + 1 + 1 + 1 + 1, none⟩ = some v := ⟨_, (HW2.out.cellAt (k * 8 + 1 + 1 + 1 + 1) (by omega)).trans (List.getElem?_eq_getElem (by omega))⟩
   obtain ⟨v5, c5⟩ : ∃ v, w2.cell? ⟨w.heap.size, k * 8 + 1 + 1 + 1 + 1 + 1, none⟩ = some v := ⟨_, (HW2.out.cellAt (k * 8 + 1 + 1 + 1 + 1 + 1) (by omega)).trans (List.getElem?_eq_getElem (by omega))⟩
   obtain ⟨v6, c6⟩ : ∃ v, w2.cell? ⟨w.heap.size, k * 8 + 1 + 1 + 1 + 1 + 1 + 1, none⟩ = some v := ⟨_, (HW2.out.cellAt (k * 8 + 1 + 1 + 1 + 1 + 1 + 1) (by omega)).trans (List.getElem?_eq_getElem (by omega))⟩
   obtain ⟨v7, c7⟩ : ∃ v, w2.cell? ⟨w.heap.size, k * 8 + 1 + 1 + 1 + 1 + 1 + 1 + 1, none⟩ = some v := ⟨_, (HW2.out.cellAt (k * 8 + 1 + 1 + 1 + 1 + 1 + 1 + 1) (by omega)).trans (List.getElem?_eq_getElem (by omega))⟩
   clear hxl
   have f0 := HW2.out.frozenAt (k * 8)
   have f1 := HW2.out.frozenAt (k * 8 + 1)
   have f2 := HW2.out.frozenAt (k * 8 + 1 + 1)
   have f3 := HW2.out.frozenAt (k * 8 + 1 + 1 + 1)
   have f4 := HW2.out.frozenAt (k * 8 + 1 + 1 + 1 + 1)
   have f5 := HW2.out.frozenAt (k * 8 + 1 + 1 + 1 + 1 + 1)
   have f6 := HW2.out.frozenAt (k * 8 + 1 + 1 + 1 + 1 + 1 + 1)
   have f7 := HW2.out.frozenAt (k * 8 + 1 + 1 + 1 + 1 + 1 + 1 + 1)
   go_wp2
   go_roundw
   case rel =>
    have O1 := ((((((((HW2.out.stored (k * 8) (.int .i64 xf)).1.stored (k * 8 + 1) (.int .i64 xt)).1.stored (k * 8 + 2) (.int .i64 xe)).1.stored (k * 8 + 3) (.bool xy)).1.stored (k * 8 + 4) (.int .i64 xk)).1.stored (k * 8 + 5) (.string xs')).1.stored (k * 8 + 6) (.int .i64 xm)).1.stored (k * 8 + 7) (.slice a' xkk.length c')).1
    refine ⟨k + 1, _, by omega, by go_num, O1, fun j t hj ht => ?_, ((((((((HB2.out.setCell (p := ⟨w.heap.size, k * 8, none⟩) (Nat.le_refl _) _).setCell (p := ⟨w.heap.size, k * 8 + 1, none⟩) (Nat.le_refl _) _).setCell (p := ⟨w.heap.size, k * 8 + 2, none⟩) (Nat.le_refl _) _).setCell (p := ⟨w.heap.size, k * 8 + 3, none⟩) (Nat.le_refl _) _).setCell (p := ⟨w.heap.size, k * 8 + 4, none⟩) (Nat.le_refl _) _).setCell (p := ⟨w.heap.size, k * 8 + 5, none⟩) (Nat.le_refl _) _).setCell (p := ⟨w.heap.size, k * 8 + 6, none⟩) (Nat.le_refl _) _).setCell (p := ⟨w.heap.size, k * 8 + 7, none⟩) (Nat.le_refl _) _)⟩
    have hlen := HW2.out.1
    rcases (by omega : j < k ∨ j = k) with hjk | rfl
    ·exact (HD2.out j t hjk ht).stay (fun b o hb _ => put8_both (by omega)) (fun o _ _ => put8_stay (.inr (.inl (by omega))))
    ·have e := HX.out.symm.trans ht
     simp only [Option.some.injEq] at e
     subst e
     refine ⟨(O1.cellAt (j * 8) (by omega)).trans ?_, (O1.cellAt (j * 8 + 1) (by omega)).trans ?_, (O1.cellAt (j * 8 + 2) (by omega)).trans ?_, (O1.cellAt (j * 8 + 3) (by omega)).trans ?_, ?_⟩
     ·simp [List.getElem?_set]; omega
     ·simp [List.getElem?_set]; omega
     ·simp [List.getElem?_set]; omega
     ·simp [List.getElem?_set]; omega
     ·unfold Lies0
      refine ⟨(O1.cellAt (j * 8 + 4) (by omega)).trans ?_, (O1.cellAt (j * 8 + 5) (by omega)).trans ?_, (O1.cellAt (j * 8 + 6) (by omega)).trans ?_, HS.out.1, HS.out.2, a', c', (O1.cellAt (j * 8 + 7) (by omega)).trans ?_, HCP.out.1, HCP.out.2, ?_⟩
      ·simp [List.getElem?_set]; omega
      ·simp [List.getElem?_set]; omega
      ·simp [List.getElem?_set]; omega
      ·simp [List.getElem?_set]; omega
      ·exact ((HK.out.lower (show w.heap.size + 1 ≤ wr.heap.size from HGR.out)).stay (fun b o hb _ => put8_both (by omega)))
   case measure => simp [intOf]; omega
  ·go_wp2
   go_ret
   have e : k = es.length := by omega
   subst e
   exact ⟨⟨_, _, rfl, .inr ⟨_, rfl, Nat.le_refl _, HW.out.frozenAt, fun i t ht => HD.out i t (List.getElem?_eq_some_iff.1 ht).1 ht⟩, Nat.le_refl _, by unfold maxLen; omega⟩, HB.out⟩

set_option maxHeartbeats 800000 in
theorem toEdgeS_nil (a : Option Addr) (c : Nat) (w : World) : Calls Tryz.prog 14 #[.slice a 0 c] w fun e w' => (∃ a' c', e = .returned (.slice a' 0 c') ∧ c' ≤ maxLen) ∧ Below w.heap.size w w' := by
 obtain ⟨i0, hi, hz⟩ := Option.map_eq_some_iff.1 Tryz.info40
 simp only [Prod.mk.injEq] at hz
 obtain ⟨hz0, hz1, hz2⟩ := hz
 obtain ⟨w1, hmk, hown0, hg0⟩ := run_make_full (P := Tryz.prog) w w.heap.size 27 40 i0 _ 8 Tryz.underlying27 hi hz0 hz1 .i64 .i64 0 (by rw [hz2]; omega) (by unfold maxLen; omega) (Nat.le_refl _)
 have HG := mkHid (Below.grown (Below.refl w.heap.size w) hg0 (Nat.le_refl _) (fun k hk => by cases hk))
 clear hown0 hg0 hi hz0 hz1 hz2
 simp only [Int.natCast_zero] at hmk
 go_enter Tryz.func14, Tryz.ntmps14
 go_wp2
 go_loopw [4] (fun i w' => i = .int .i64 0 ∧ Below w.heap.size w w') (fun i _ => 0)
 case atStart => exact ⟨rfl, HG.out⟩
 case round =>
  obtain ⟨rfl, hb⟩ := hrel
  have HB := mkHid hb
  clear hb HG hmk
  go_wp2
  go_ret
  exact ⟨⟨_, _, rfl, Nat.zero_le _⟩, HB.out⟩
theorem toEdgeS_kids (es : List Ed) (a : Option Addr) (c : Nat) (w : World) (hn : es.length + ebulk es ≤ 1048576) (hl : KidsG w 0 a es) :
    Calls Tryz.prog 14 #[.slice a es.length c] w fun e w' => (∃ a' c', e = .returned (.slice a' es.length c') ∧ Kids0G w' w.heap.size a' es ∧ es.length ≤ c' ∧ c' ≤ maxLen) ∧ Below w.heap.size w w' := by
 rcases hl with rfl | ⟨b, o, rfl, _, hl⟩
 ·refine (toEdgeS_nil a c w).mono ?_
  rintro e w' ⟨⟨a', c', rfl, hc⟩, hb⟩
  exact ⟨⟨a', c', rfl, .inl rfl, Nat.zero_le _, hc⟩, hb⟩
 ·exact toEdgeS_of es b o c w hn hl

set_option maxHeartbeats 800000 in
theorem toGraph_ok (p : Int) (es : List Ed) (a : Option Addr) (c : Nat) (w : World) (hn : es.length + ebulk es ≤ 1048576) (hk : KidsG w 0 a es) :
    Calls Tryz.prog 6 #[.agg #[.int .i64 p, .slice a es.length c]] w fun e w' =>
     (∃ a' c', e = .returned (.agg #[.int .i64 p, .slice a' es.length c']) ∧ Kids0G w' w.heap.size a' es ∧ es.length ≤ c' ∧ c' ≤ maxLen) ∧ Below w.heap.size w w' := by
 have HN := mkHid hn
 have HK := mkHid hk
 clear hn hk
 go_enter Tryz.func6, Tryz.ntmps6
 go_wp2_with fail
 refine (toEdgeS_kids es a c _ HN.out (HK.out.below ?_)).mono ?_
 ·exact (((Below.refl w.heap.size w).alloc (Nat.le_refl _) _).alloc (by simp) _).alloc (by simp; omega) _
 rintro e w1 ⟨⟨a', c', rfl, hk', hcap⟩, hb1⟩
 have HCP := mkHid hcap
 clear hcap
 obtain ⟨hc, hf⟩ := bcell hb1
 have HK' := mkHid (hk'.lower (lo' := w.heap.size + 3) (by simp))
 have HB := mkHid (below_step ((((Below.refl w.heap.size w).alloc (Nat.le_refl _) _).alloc (by simp) _).alloc (by simp; omega) _) hb1)
 clear hk' hb1
 have c0 := (hc (w.heap.size + 1 + 1) 0 (by simp)).trans (show _ = some (Value.int .i64 p) by simp [go_sem])
 have c1 := (hc (w.heap.size + 1 + 1) 1 (by simp)).trans (show _ = some (Value.slice none 0 0) by simp [go_sem])
 have f1 := (hf (w.heap.size + 1 + 1) 1 (by simp)).trans (show _ = false by simp [go_sem])
 have d0 := (hc (w.heap.size + 1) 0 (by simp)).trans (show _ = some (Value.int .i64 0) by simp [go_sem])
 have g0 := (hf (w.heap.size + 1) 0 (by simp)).trans (show _ = false by simp [go_sem])
 have d1 := (hc (w.heap.size + 1) 1 (by simp)).trans (show _ = some (Value.slice none 0 0) by simp [go_sem])
 have g1 := (hf (w.heap.size + 1) 1 (by simp)).trans (show _ = false by simp [go_sem])
 clear hc hf
 go_wp2
 refine bodyPost_ret (v := .agg #[.int .i64 p, .slice a' es.length c']) (by simp [results, Tryz.results6, go_sem, d0, d1]) rfl ⟨⟨a', c', rfl, ?_, HCP.out⟩, ?_⟩
 ·refine (HK'.out.stay fun b o hb _ => ⟨?_, by simp⟩).lower (by omega)
  rw [World.cell?_setCell_far _ _ _ _ (by simp; omega), World.cell?_setCell_far _ _ _ _ (by simp; omega), World.cell?_setCell_far _ _ _ _ (by simp; omega)]
 ·exact ((HB.out.setCell (p := ⟨w.heap.size + 1 + 1, 1, none⟩) (by simp; omega) _).setCell (p := ⟨w.heap.size + 1, 0, none⟩) (by simp) _).setCell (p := ⟨w.heap.size + 1, 1, none⟩) (by simp) _
end Go.Proofs.YtedfnadgmhjojaaGreatDoor
namespace Go.Proofs.YtedfnadgmhjojaaGreatDoor
open Go.RowKit

set_option maxHeartbeats 800000 in
theorem eqEdge_ok (f t k : Int) (y : Bool) (nk : Int) (s : ByteArray) (m : Int) (kk : List T) (a a' : Option Addr) (c c' : Nat) (w : World) (hn : kk.length ≤ maxLen) (hk : Kids w 0 a kk) (hk' : Kids w 0 a' kk) :
    Calls Tryz.prog 38 #[.agg #[.int .i64 f, .int .i64 t, .int .i64 k, .bool y, .int .i64 nk, .string s, .int .i64 m, .slice a kk.length c], .agg #[.int .i64 f, .int .i64 t, .int .i64 k, .bool y, .int .i64 nk, .string s, .int .i64 m, .slice a' kk.length c']] w fun e w' => e = .returned (.bool true) ∧ Below w.heap.size w w' := by
 have HN := mkHid hn
 have HK := mkHid hk
 have HK' := mkHid hk'
 clear hn hk hk'
 have hy : (y != y) = false := by simp
 go_enter Tryz.func38, Tryz.ntmps38
 go_wp2_with fail
 refine (eqNode_ok (.node nk s m kk) a a' c c' _ HN.out (HK.out.below (((Below.refl w.heap.size w).alloc (Nat.le_refl _) _).alloc (by simp) _)) (HK'.out.below (((Below.refl w.heap.size w).alloc (Nat.le_refl _) _).alloc (by simp) _))).mono ?_
 rintro e w1 ⟨rfl, hb1⟩
 have HB := mkHid (below_step (((Below.refl w.heap.size w).alloc (Nat.le_refl _) _).alloc (by simp) _) hb1)
 clear hb1
 go_wp2
 go_ret
 exact ⟨rfl, HB.out⟩

set_option maxHeartbeats 1600000 in
theorem eqEdgeS_of (es : List Ed) (b off c b' off' c' : Nat) (w : World) (hn : es.length ≤ maxLen) (hl : LiesG w 0 es b off) (hl' : LiesG w 0 es b' off') :
    Calls Tryz.prog 22 #[.slice (some ⟨b, off, none⟩) es.length c, .slice (some ⟨b', off', none⟩) es.length c'] w fun e w' => e = .returned (.bool true) ∧ Below w.heap.size w w' := by
 unfold maxLen at hn
 have HL := mkHid hl
 have HL' := mkHid hl'
 clear hl hl'
 go_enter Tryz.func22, Tryz.ntmps22
 go_wp2
 go_loopw [5] (fun i w' => ∃ (k : Nat), k ≤ es.length ∧ i = .int .i64 k ∧ Below w.heap.size w w') (fun i _ => es.length - (intOf i).toNat)
 case atStart => exact ⟨0, Nat.zero_le _, rfl, Below.refl _ _⟩
 case round =>
  obtain ⟨k, hk, rfl, hbel⟩ := hrel
  have HB := mkHid hbel
  clear hbel
  by_cases hlt : k < es.length
  ·obtain ⟨x, hx⟩ : ∃ x, es[k]? = some x := ⟨_, List.getElem?_eq_getElem hlt⟩
   obtain ⟨xf, xt, xe, xy, ⟨xk, xs, xm, xkk⟩⟩ := x
   obtain ⟨xa, xc, hc0, hc1, hc2, hc3, hc4, hc5, hc6, hc7, hs, hkn, hkids⟩ := (HL.out.below (Nat.zero_le _) HB.out).at hx
   obtain ⟨ya, yc, hd0, hd1, hd2, hd3, hd4, hd5, hd6, hd7, _, _, hkids'⟩ := (HL'.out.below (Nat.zero_le _) HB.out).at hx
   have HK := mkHid hkids
   have HK' := mkHid hkids'
   have HKN := mkHid hkn
   clear hx hs hkids hkids' hkn
   have hlb : b < wr.heap.size := World.block_lt_of_cell? wr _ hc0
   have hlb' : b' < wr.heap.size := World.block_lt_of_cell? wr _ hd0
   have i0 : (0 : Int) ≤ (k : Int) := by omega
   have i1 : (k : Int) < (es.length : Int) := by omega
   go_wp2
   go_region_held3 (fun w' => w'.cell? ⟨b, off + k * 8, none⟩ = some (.int .i64 xf) ∧ w'.cell? ⟨b, off + k * 8 + 1, none⟩ = some (.int .i64 xt) ∧ w'.cell? ⟨b, off + k * 8 + 2, none⟩ = some (.int .i64 xe) ∧ w'.cell? ⟨b, off + k * 8 + 3, none⟩ = some (.bool xy) ∧ w'.cell? ⟨b, off + k * 8 + 4, none⟩ = some (.int .i64 xk) ∧ w'.cell? ⟨b, off + k * 8 + 5, none⟩ = some (.string xs) ∧ w'.cell? ⟨b, off + k * 8 + 6, none⟩ = some (.int .i64 xm) ∧ w'.cell? ⟨b, off + k * 8 + 7, none⟩ = some (.slice xa xkk.length xc) ∧ w'.cell? ⟨b', off' + k * 8, none⟩ = some (.int .i64 xf) ∧ w'.cell? ⟨b', off' + k * 8 + 1, none⟩ = some (.int .i64 xt) ∧ w'.cell? ⟨b', off' + k * 8 + 2, none⟩ = some (.int .i64 xe) ∧ w'.cell? ⟨b', off' + k * 8 + 3, none⟩ = some (.bool xy) ∧ w'.cell? ⟨b', off' + k * 8 + 4, none⟩ = some (.int .i64 xk) ∧ w'.cell? ⟨b', off' + k * 8 + 5, none⟩ = some (.string xs) ∧ w'.cell? ⟨b', off' + k * 8 + 6, none⟩ = some (.int .i64 xm) ∧ w'.cell? ⟨b', off' + k * 8 + 7, none⟩ = some (.slice ya xkk.length yc))
    (first | exact ⟨hc0, hc1, hc2, hc3, hc4, hc5, hc6, hc7, hd0, hd1, hd2, hd3, hd4, hd5, hd6, hd7⟩ | exact ⟨(hc _ _ hlb).trans hc0, (hc _ _ hlb).trans hc1, (hc _ _ hlb).trans hc2, (hc _ _ hlb).trans hc3, (hc _ _ hlb).trans hc4, (hc _ _ hlb).trans hc5, (hc _ _ hlb).trans hc6, (hc _ _ hlb).trans hc7, (hc _ _ hlb').trans hd0, (hc _ _ hlb').trans hd1, (hc _ _ hlb').trans hd2, (hc _ _ hlb').trans hd3, (hc _ _ hlb').trans hd4, (hc _ _ hlb').trans hd5, (hc _ _ hlb').trans hd6, (hc _ _ hlb').trans hd7⟩)
    ((go_at_call 38; refine (eqEdge_ok xf xt xe xy xk xs xm xkk xa ya xc yc _ HKN.out (HK.out.below (Below.refl _ _).drew) (HK'.out.below (Below.refl _ _).drew)).mono ?_; rintro e w1 ⟨rfl, hb1⟩; obtain ⟨hc, hf⟩ := bcell hb1))
   have HB1 : Hid (Below w.heap.size w w1) := HB.out.drew.trans (hb1.mono HB.out.drew.size)
   clear hb1 hc hf
   go_wp2
   go_roundw
   case rel => exact ⟨k + 1, by omega, by go_num, HB1.out⟩
   case measure => simp [intOf]; omega
  ·go_wp2
   go_ret
   exact ⟨rfl, HB.out⟩

set_option maxHeartbeats 400000 in
theorem eqEdgeS_nil (a a' : Option Addr) (c c' : Nat) (w : World) : Calls Tryz.prog 22 #[.slice a 0 c, .slice a' 0 c'] w fun e w' => e = .returned (.bool true) ∧ Below w.heap.size w w' := by
 go_enter Tryz.func22, Tryz.ntmps22
 go_wp2
 go_loopw [5] (fun i w' => i = .int .i64 0 ∧ w' = w) (fun i _ => 0)
 case atStart => exact ⟨rfl, rfl⟩
 case round =>
  obtain ⟨rfl, rfl⟩ := hrel
  go_wp2
  go_ret
  exact ⟨rfl, Below.refl _ _⟩
theorem eqEdgeS_kids (es : List Ed) (a a' : Option Addr) (c c' : Nat) (w : World) (hn : es.length ≤ maxLen) (hl : KidsG w 0 a es) (hl' : KidsG w 0 a' es) :
    Calls Tryz.prog 22 #[.slice a es.length c, .slice a' es.length c'] w fun e w' => e = .returned (.bool true) ∧ Below w.heap.size w w' := by
 rcases hl with rfl | ⟨b, o, rfl, _, hl⟩
 ·exact eqEdgeS_nil a a' c c' w
 ·rcases hl' with rfl | ⟨b', o', rfl, _, hl'⟩
  ·exact eqEdgeS_nil _ a' c c' w
  ·exact eqEdgeS_of es b o c b' o' c' w hn hl hl'

set_option maxHeartbeats 800000 in
theorem eqGraph_ok (p : Int) (es : List Ed) (a a' : Option Addr) (c c' : Nat) (w : World) (hn : es.length ≤ maxLen) (hk : KidsG w 0 a es) (hk' : KidsG w 0 a' es) :
    Calls Tryz.prog 8 #[.agg #[.int .i64 p, .slice a es.length c], .agg #[.int .i64 p, .slice a' es.length c']] w fun e w' => e = .returned (.bool true) ∧ Below w.heap.size w w' := by
 have HN := mkHid hn
 have HK := mkHid hk
 have HK' := mkHid hk'
 clear hn hk hk'
 go_enter Tryz.func8, Tryz.ntmps8
 go_wp2_with fail
 refine (eqEdgeS_kids es a a' c c' _ HN.out (HK.out.below (((Below.refl w.heap.size w).alloc (Nat.le_refl _) _).alloc (by simp) _)) (HK'.out.below (((Below.refl w.heap.size w).alloc (Nat.le_refl _) _).alloc (by simp) _))).mono ?_
 rintro e w1 ⟨rfl, hb1⟩
 have HB := mkHid (below_step (((Below.refl w.heap.size w).alloc (Nat.le_refl _) _).alloc (by simp) _) hb1)
 clear hb1
 go_wp2
 go_ret
 exact ⟨rfl, HB.out⟩
end Go.Proofs.YtedfnadgmhjojaaGreatDoor
namespace Go.Proofs.YtedfnadgmhjojaaGreatDoor
open Go.RowKit

def btw (a lo hi : Int) : Bool := decide (lo ≤ a ∧ a ≤ hi)
def edB (p : Int) (e : Ed) : Bool := btw e.f 0 (p - 1) && btw e.t 0 (p - 1) && btw e.k 1 7
def gokB (p : Int) (es : List Ed) : Bool := btw p 1 3000 && decide (es.length ≤ 6000) && es.all (edB p)
theorem btw_iff {a lo hi : Int} : btw a lo hi = true ↔ lo ≤ a ∧ a ≤ hi := by unfold btw; simp
theorem btw_not {a lo hi : Int} : btw a lo hi = false ↔ ¬ (lo ≤ a ∧ a ≤ hi) := by unfold btw; simp
theorem all_take {p : Int} {es : List Ed} {i : Nat} {x : Ed} (h : es[i]? = some x) (ht : (es.take i).all (edB p) = true) (hx : edB p x = true) : (es.take (i + 1)).all (edB p) = true := by
 rw [List.take_add_one, h, List.all_append, ht]; simp [hx]
theorem all_no {p : Int} {es : List Ed} {i : Nat} {x : Ed} (h : es[i]? = some x) (hx : edB p x = false) : es.all (edB p) = false := by
 cases hh : es.all (edB p)
 ·rfl
 ·rw [List.all_eq_true] at hh
  rw [hh x (List.mem_of_getElem? h)] at hx
  cases hx

set_option maxHeartbeats 400000 in
theorem between_any (a lo hi : Int) (w : World) : Calls Tryz.prog 24 #[.int .i64 a, .int .i64 lo, .int .i64 hi] w fun e w' => e = .returned (.bool (btw a lo hi)) ∧ w = w' := by
 by_cases h : a ≥ lo
 ·by_cases h2 : a ≤ hi
  ·go_enter Tryz.func24, Tryz.ntmps24
   go_wp2
   go_ret
   exact ⟨ret_bool (btw_iff.2 ⟨h, h2⟩).symm, rfl⟩
  ·go_enter Tryz.func24, Tryz.ntmps24
   go_wp2
   go_ret
   exact ⟨ret_bool (btw_not.2 (by omega)).symm, rfl⟩
 ·go_enter Tryz.func24, Tryz.ntmps24
  go_wp2
  go_ret
  exact ⟨ret_bool (btw_not.2 (by omega)).symm, rfl⟩

set_option maxHeartbeats 400000 in
theorem isPoint_any (p x : Int) (a : Option Addr) (n c : Nat) (w : World) : Calls Tryz.prog 32 #[.agg #[.int .i64 p, .slice a n c], .int .i64 x] w fun e w' => e = .returned (.bool (btw x 0 (p - 1))) ∧ Below w.heap.size w w' := by
 by_cases h : x ≥ 0
 ·by_cases h2 : x < p
  ·go_enter Tryz.func32, Tryz.ntmps32
   go_wp2
   go_ret
   exact ⟨ret_bool (btw_iff.2 ⟨h, by omega⟩).symm, (Below.refl _ _).alloc (Nat.le_refl _) _⟩
  ·go_enter Tryz.func32, Tryz.ntmps32
   go_wp2
   go_ret
   exact ⟨ret_bool (btw_not.2 (by omega)).symm, (Below.refl _ _).alloc (Nat.le_refl _) _⟩
 ·go_enter Tryz.func32, Tryz.ntmps32
  go_wp2
  go_ret
  exact ⟨ret_bool (btw_not.2 (by omega)).symm, (Below.refl _ _).alloc (Nat.le_refl _) _⟩

set_option maxHeartbeats 1000000 in
theorem sGraphOk_of (p : Int) (es : List Ed) (b off c : Nat) (w : World) (hp : btw p 1 3000 = true) (hn : es.length ≤ 6000) (hl : LiesG w 0 es b off) :
    Calls Tryz.prog 10 #[.agg #[.int .i64 p, .slice (some ⟨b, off, none⟩) es.length c]] w fun e w' => e = .returned (.bool (es.all (edB p))) ∧ Below w.heap.size w w' := by
 have HL := mkHid hl
 clear hl
 obtain ⟨p1, p2⟩ := btw_iff.1 hp
 have hn' : ¬ (es.length : Int) > 6000 := by omega
 go_enter Tryz.func10, Tryz.ntmps10
 go_wp2_with (go_at_call 24; refine (between_any _ _ _ _).mono ?_; rintro e w' ⟨rfl, rfl⟩)
 go_loopw [3] (fun i w' => ∃ (k : Nat), k ≤ es.length ∧ i = .int .i64 k ∧ (es.take k).all (edB p) = true ∧ Below (w.heap.size + 1) (w.alloc (.cells #[.int .i64 p, .slice (some ⟨b, off, none⟩) es.length c] 29)) w') (fun i _ => es.length - (intOf i).toNat)
 case atStart => exact ⟨0, Nat.zero_le _, rfl, by simp, Below.refl _ _⟩
 case round =>
  obtain ⟨k, hk, rfl, hall, hbel⟩ := hrel
  have q0 : wr.cell? ⟨w.heap.size, 0, none⟩ = some (.int .i64 p) := (hbel.cell (p := ⟨w.heap.size, 0, none⟩) (by simp)).trans (by simp [go_sem])
  have q1 : wr.cell? ⟨w.heap.size, 1, none⟩ = some (.slice (some ⟨b, off, none⟩) es.length c) := (hbel.cell (p := ⟨w.heap.size, 1, none⟩) (by simp)).trans (by simp [go_sem])
  have HB := mkHid hbel
  have hb0 : Below w.heap.size w wr := ((Below.refl _ _).alloc (Nat.le_refl _) _).trans (hbel.mono (Nat.le_succ _))
  have hsz : w.heap.size + 1 ≤ wr.heap.size := by have := hbel.size; simpa using this
  have hsy : w.heap.size < wr.heap.size := by omega
  have hsn : w.heap.size ≠ wr.heap.size := by omega
  have HB0 := mkHid hb0
  have HA := mkHid hall
  clear hbel hall hb0
  by_cases hlt : k < es.length
  ·obtain ⟨x, hx⟩ : ∃ x, es[k]? = some x := ⟨_, List.getElem?_eq_getElem hlt⟩
   have HX := mkHid hx
   obtain ⟨xf, xt, xe, xy, ⟨xk, xs, xm, xkk⟩⟩ := x
   obtain ⟨xa, xc, hc0, hc1, hc2, hc3, hc4, hc5, hc6, hc7, hs, hkn, hkids⟩ := (HL.out.below (Nat.zero_le _) HB0.out).at hx
   clear hx hs hkn hkids
   have AN : edB p ⟨xf, xt, xe, xy, .node xk xs xm xkk⟩ = false → es.all (edB p) = false := fun h => all_no HX.out h
   have AN := mkHid AN
   cases h1 : btw xf 0 (p - 1)
   ·have e1 := mkHid (AN.out (by simp [edB, h1]))
    go_wp2_with (go_at_call 24; refine (between_any _ _ _ _).mono ?_; rintro e w' ⟨rfl, rfl⟩)
    go_ret
    exact ⟨ret_bool e1.out.symm, HB0.out.alloc HB0.out.size _⟩
   ·cases h2 : btw xt 0 (p - 1)
    ·have e1 := mkHid (AN.out (by simp [edB, h2]))
     go_wp2_with (go_at_call 24; refine (between_any _ _ _ _).mono ?_; rintro e w' ⟨rfl, rfl⟩)
     go_ret
     exact ⟨ret_bool e1.out.symm, HB0.out.alloc HB0.out.size _⟩
    ·cases h3 : btw xe 1 7
     ·have e1 := mkHid (AN.out (by simp [edB, h3]))
      go_wp2_with (go_at_call 24; refine (between_any _ _ _ _).mono ?_; rintro e w' ⟨rfl, rfl⟩)
      go_ret
      exact ⟨ret_bool e1.out.symm, HB0.out.alloc HB0.out.size _⟩
     ·have e1 := mkHid (all_take HX.out HA.out (by simp [edB, h1, h2, h3]))
      go_wp2_with (go_at_call 24; refine (between_any _ _ _ _).mono ?_; rintro e w' ⟨rfl, rfl⟩)
      go_roundw
      case rel => exact ⟨k + 1, by omega, by go_num, e1.out, HB.out.alloc (by omega) _⟩
      case measure => simp [intOf]; omega
  ·go_wp2
   go_ret
   have h3 := HA.out
   rw [List.take_of_length_le (by omega)] at h3
   exact ⟨ret_bool h3.symm, HB0.out⟩
end Go.Proofs.YtedfnadgmhjojaaGreatDoor
