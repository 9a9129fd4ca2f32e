/-
  CONTRACTS of the printer's expr at conditions and numbers; of the whole.
  CONTRACT of the specification's l02Expr at conditions; of l02Expr whole.
  PLAIN FACTS on the reading of words: where it ends, it has not gone back.
  PLAIN FACTS: the specification's reader against the plain reading, at expressions.
  THE WORDS OF AN EXPRESSION; its text is read as them.
  PLAIN FACTS: the words of an expression are read as it.
  THE TEXT OF A DECLARATION, STATEMENT, BLOCK OR PROGRAM, and its words; what formed ones look like.
-/
import Derived.Test.YtpebfdplapeejaaGreatDoorMPexc
import Derived.Lib.AppendIntMem
import Derived.Test.YtpebfdplapeejaaGreatDoorMPex
import Derived.Test.YtpebfdplapeejaaGreatDoorMGrove
import Derived.Test.YtpebfdplapeejaaGreatDoorMGroveb
import Derived.Test.YtpebfdplapeejaaGreatDoorMChn
namespace Go.Proofs.YtpebfdplapeejaaGreatDoor
open Go.RowKit
open Pl

theorem heap_new (w : World) (cs : Array Value) (e : TypeId) (tb : Nat) (h : tb = w.heap.size) : (w.alloc (.cells cs e)).heap[tb]? = some (.cells cs e (0, 0)) := by
  subst h
  exact World.heap_alloc_new w cs e
theorem Around.below {W0 : World} {dp : Int} {B b : Nat} {l : List UInt8} {w w' : World} (h : Around W0 dp B b l w) (hb : Below w.heap.size w w') : Around W0 dp B b l w' :=
  ⟨h.pr.below hb, h.old.trans (hb.mono (Nat.le_trans h.lo h.hi)), h.lo, Nat.le_trans h.hi hb.size, h.tab⟩
theorem others_below {b : Nat} {a w w' : World} (h : Lib.OthersKept 5 (some b) a w) (hb : Below w.heap.size w w') : Lib.OthersKept 5 (some b) a w' := fun k o hk h1 h2 => by
  have h3 := h k o hk h1 h2
  obtain ⟨hlt, _⟩ := Array.getElem?_eq_some_iff.1 h3
  exact (hb.block k hlt).trans h3
theorem typ_cond {k : Int} (h : 11 ≤ k ∧ k ≤ 16) : typI k = 144 := by
  rcases (by omega : k = 11 ∨ k = 12 ∨ k = 13 ∨ k = 14 ∨ k = 15 ∨ k = 16) with rfl | rfl | rfl | rfl | rfl | rfl <;> rfl
theorem val_cond {k : Int} (h : 11 ≤ k ∧ k ≤ 16) : formVal k = .agg #[.string (signI k)] := by
  unfold formVal
  rw [if_neg (by omega), if_neg (by omega), if_neg (by omega), if_pos h]

set_option maxRecDepth 100000 in
set_option maxHeartbeats 3200000 in
theorem pEx_cond (k : Int) (s : ByteArray) (m : Int) (x y : T) (hkk : 11 ≤ k ∧ k ≤ 16) (IX : PEx x) (IY : PEx y) (hx : Good1 x) (hy : Good1 y) : PEx (.node k s m [x, y]) := by
  intro W0 dp B b l a c w hg hc hk har hl
  have hcx : cnt x + cnt y ≤ 499 := by simp only [cnt, cnts] at hc; omega
  have hlay : lay k s m (kindT x) (exS x) (kindT y) (exS y) = exS x ++ ⟨#[32]⟩ ++ signI k ++ ⟨#[32]⟩ ++ exS y := by
    unfold lay
    rw [if_neg (by omega), if_neg (by omega), if_neg (by omega), if_neg (by omega), if_neg (by omega), if_neg (by omega), if_neg (by omega), if_neg (by omega)]
  have hT : exT (.node k s m [x, y]) = exT x ++ cat [⟨#[32]⟩, signI k, ⟨#[32]⟩] ++ exT y := by unfold exT; rw [exS2, hlay]; simp [cat]
  rw [hT]
  have hsz : (exS (.node k s m [x, y])).size = (exS x).size + 1 + (signI k).size + 1 + (exS y).size := by
    rw [exS2, hlay, ByteArray.size_append, ByteArray.size_append, ByteArray.size_append, ByteArray.size_append]
    rfl
  rw [hsz] at hl
  have htyp := typ_cond hkk
  have hval := val_cond hkk
  have hF := fun W => formOf_val k W (.inr hkk)
  rw [htyp, hval] at hF
  have HF := mkHid hF
  clear hF htyp hval hlay hT hsz
  generalize signI k = G at HF hl ⊢
  have hG : (cat [ByteArray.mk #[32], G, ByteArray.mk #[32]]).length = 1 + G.size + 1 := by have := Lib.size_eq G; simp [cat]; omega
  rcases hk with h0 | ⟨kb, o, rfl, _, hll⟩
  · cases h0
  obtain ⟨xk, xs, xm, xkk⟩ := x
  obtain ⟨xa, xc, xc0, xc1, xc2, xc3, _, _, xkids⟩ := hll.at (i := 0) (show _ = some (T.node xk xs xm xkk) from rfl)
  simp only [Nat.zero_mul, Nat.add_zero] at xc0 xc1 xc2 xc3
  have xH := mkHid (And.intro xc0 (And.intro xc1 (And.intro xc2 xc3)))
  obtain ⟨yk, ys, ym, ykk⟩ := y
  obtain ⟨ya, yc, yc0, yc1, yc2, yc3, _, _, ykids⟩ := hll.at (i := 1) (show _ = some (T.node yk ys ym ykk) from rfl)
  simp only [Nat.one_mul] at yc0 yc1 yc2 yc3
  have yH := mkHid (And.intro yc0 (And.intro yc1 (And.intro yc2 yc3)))
  have hAx : (exT (.node xk xs xm xkk)).length = (exS (.node xk xs xm xkk)).size := (Lib.size_eq _).symm
  have hbw := World.block_lt_of_cell? W0 _ xc0
  have t56 := ta66_56 G
  have t58 := ta66_58 G
  have t59 := ta66_59 G
  have t60 := ta66_60 G
  have t61 := ta66_61 G
  have t64 := ta66_64 G
  have t66 := ta66_66 G
  have A0 := har.alloc (.cells #[.int .i64 k, .string s, .int .i64 m, .slice (some ⟨kb, o, none⟩) 2 c] 33)
  have H0 := World.heap_alloc_new w #[.int .i64 k, .string s, .int .i64 m, .slice (some ⟨kb, o, none⟩) 2 c] 33
  have hnb : w.heap.size ≠ b := by have := har.pr.lt; omega
  have hfb : w.heap.size + 1 ≠ b := by have := har.pr.lt; omega
  show Calls Tryz.prog 87 #[.pointer (some ⟨b, 0, none⟩), .agg #[.int .i64 k, .string s, .int .i64 m, .slice (some ⟨kb, o, none⟩) 2 c]] w _
  have A1 := A0.alloc (.cells #[.string G] 144)
  have H1 : ((w.alloc (.cells #[.int .i64 k, .string s, .int .i64 m, .slice (some ⟨kb, o, none⟩) 2 c] 33)).alloc (.cells #[.string G] 144)).heap[w.heap.size]? = some (.cells #[.int .i64 k, .string s, .int .i64 m, .slice (some ⟨kb, o, none⟩) 2 c] 33 (0, 0)) := (Lib.alloc_old _ _ _ (by simp)).trans H0
  have K1 := mkHid ((((Below.refl B w).alloc har.hi (.cells #[.int .i64 k, .string s, .int .i64 m, .slice (some ⟨kb, o, none⟩) 2 c] 33)).alloc (Nat.le_trans har.hi (by simp)) (.cells #[.string G] 144)))
  have O1 := mkHid ((((Lib.OthersKept.refl 5 (some b) w).alloc (.cells #[.int .i64 k, .string s, .int .i64 m, .slice (some ⟨kb, o, none⟩) 2 c] 33)).alloc (.cells #[.string G] 144)))
  have FF := mkHid (heap_new (w.alloc (.cells #[.int .i64 k, .string s, .int .i64 m, .slice (some ⟨kb, o, none⟩) 2 c] 33)) #[.string G] 144 (w.heap.size + 1) (by simp))
  have AA := mkHid A1
  have HH := mkHid H1
  clear A0 H0 A1 H1 har
  go_enter Tryz.func87, Tryz.ntmps87
  go_wp2_with fail
  refine (HF.out _).mono ?_
  rintro e w1 ⟨rfl, rfl⟩
  have xq0 := (AA.out.old.cell (p := ⟨kb, _, none⟩) hbw).trans xH.out.1
  have xq1 := (AA.out.old.cell (p := ⟨kb, _, none⟩) hbw).trans xH.out.2.1
  have xq2 := (AA.out.old.cell (p := ⟨kb, _, none⟩) hbw).trans xH.out.2.2.1
  have xq3 := (AA.out.old.cell (p := ⟨kb, _, none⟩) hbw).trans xH.out.2.2.2
  go_wp2_with fail
  refine (IX W0 dp B b l xa xc _ hx.good (by omega) xkids AA.out (by have hl9 : l.length + ((exS (.node xk xs xm xkk)).size + 1 + G.size + 1 + (exS (.node yk ys ym ykk)).size) ≤ 100000000000000 := hl; omega)).mono ?_
  rintro e w2 ⟨rfl, hp, hb, hk2⟩
  have A2 := mkHid (AA.out.step hp hb)
  have H2 := mkHid (node_kept HH.out hnb hk2)
  have K2 := mkHid (K1.out.trans hb)
  have O2 := mkHid (O1.out.trans hk2)
  have F2 := mkHid (show w2.heap[w.heap.size + 1]? = some (.cells #[.string G] 144 (0, 0)) from hk2 _ _ FF.out (by simpa using hfb) (by simp))
  clear hp hb hk2 AA HH K1 O1 FF xq0 xq1 xq2 xq3
  have f0 : w2.cell? ⟨w.heap.size + 1, 0, none⟩ = some (.string G) := by rw [Lib.cell_of_heap F2.out]; rfl
  go_wp2_with fail
  refine (put_new W0 dp B b _ [⟨#[32]⟩, G, ⟨#[32]⟩] #[.string ⟨#[32]⟩, .string G, .string ⟨#[32]⟩] _ _ rfl A2.out (by have hl9 : l.length + ((exS (.node xk xs xm xkk)).size + 1 + G.size + 1 + (exS (.node yk ys ym ykk)).size) ≤ 100000000000000 := hl; rw [List.length_append, hG]; omega) (by simp) rfl).mono ?_
  rintro e w3 ⟨rfl, hp, hb, hk2⟩
  have A3 := mkHid (A2.out.step hp hb)
  have H3 := mkHid (node_kept H2.out hnb hk2)
  have K3 := mkHid (K2.out.trans hb)
  have O3 := mkHid (O2.out.trans hk2)
  clear hp hb hk2 A2 H2 K2 O2 F2 f0
  have c0 : w3.cell? ⟨w.heap.size, 0, none⟩ = some (.int .i64 k) := by rw [Lib.cell_of_heap H3.out]; rfl
  have c1 : w3.cell? ⟨w.heap.size, 1, none⟩ = some (.string s) := by rw [Lib.cell_of_heap H3.out]; rfl
  have c2 : w3.cell? ⟨w.heap.size, 2, none⟩ = some (.int .i64 m) := by rw [Lib.cell_of_heap H3.out]; rfl
  have c3 : w3.cell? ⟨w.heap.size, 3, none⟩ = some (.slice (some ⟨kb, o, none⟩) 2 c) := by rw [Lib.cell_of_heap H3.out]; rfl
  have yq0 := (A3.out.old.cell (p := ⟨kb, _, none⟩) hbw).trans yH.out.1
  have yq1 := (A3.out.old.cell (p := ⟨kb, _, none⟩) hbw).trans yH.out.2.1
  have yq2 := (A3.out.old.cell (p := ⟨kb, _, none⟩) hbw).trans yH.out.2.2.1
  have yq3 := (A3.out.old.cell (p := ⟨kb, _, none⟩) hbw).trans yH.out.2.2.2
  go_wp2_with fail
  refine (IY W0 dp B b _ ya yc _ hy.good (by omega) ykids A3.out (by have hl9 : l.length + ((exS (.node xk xs xm xkk)).size + 1 + G.size + 1 + (exS (.node yk ys ym ykk)).size) ≤ 100000000000000 := hl; rw [List.length_append, List.length_append, hG]; omega)).mono ?_
  rintro e w4 ⟨rfl, hp, hb, hk2⟩
  rw [List.append_assoc, List.append_assoc, ← List.append_assoc (exT (.node xk xs xm xkk))] at hp
  have M1 := mkHid hp
  have M2 := mkHid (K3.out.trans hb)
  have M3 := mkHid (O3.out.trans hk2)
  clear hp hb hk2 A3 H3 K3 O3 c0 c1 c2 c3 yq0 yq1 yq2 yq3
  go_wp2
  go_end0
  exact ⟨rfl, M1.out, M2.out, M3.out⟩

set_option maxRecDepth 100000 in
set_option maxHeartbeats 1600000 in
theorem pEx_num (s : ByteArray) (n : Nat) (hn : n ≤ 1000000) : PEx (.node 1 s n []) := by
  intro W0 dp B b l a c w hg hc hk har hl
  have hT : exT (.node 1 s n []) = cat [dec n] := by unfold exT; rw [exS0]; simp [lay, cat]
  rw [hT]
  have hsz : (exS (.node 1 s n [])).size = (dec n).size := by rw [exS0]; simp [lay]
  have HF := mkHid (fun W => formOf_val 1 W (by omega))
  have t56 := ta56_56
  have A0 := har.alloc (.cells #[.int .i64 1, .string s, .int .i64 n, .slice a 0 c] 33)
  have A1 := A0.alloc (.cells #[] 134)
  obtain ⟨g, hgn⟩ := Option.isSome_iff_exists.1 (show (Tryz.prog.globalNamed "internal/strconv.uint64pow10").isSome = true by kernel_rfl)
  have HI := mkHid (fun W (hW : Below W0.heap.size W0 W) => Tryz.strconv_Itoa n (by omega) (by omega) W (Joins.tab_stays hgn har.tab hW (Nat.le_refl _)))
  have hit : (ByteArray.mk (Lib.itoa (n : Int)).toArray) = dec n := by unfold dec Lib.itoa; rw [if_neg (by omega)]; simp
  rw [hit] at HI
  show Calls Tryz.prog 87 #[.pointer (some ⟨b, 0, none⟩), .agg #[.int .i64 1, .string s, .int .i64 n, .slice a 0 c]] w _
  have K1 := mkHid ((((Below.refl B w).alloc har.hi (.cells #[.int .i64 1, .string s, .int .i64 n, .slice a 0 c] 33)).alloc (Nat.le_trans har.hi (by simp)) (.cells #[] 134)))
  have O1 := mkHid ((((Lib.OthersKept.refl 5 (some b) w).alloc (.cells #[.int .i64 1, .string s, .int .i64 n, .slice a 0 c] 33)).alloc (.cells #[] 134)))
  have AA := mkHid A1
  clear A0 A1 hit hgn
  go_enter Tryz.func87, Tryz.ntmps87
  go_wp2_with fail
  refine (HF.out _).mono ?_
  rintro e w1 ⟨rfl, rfl⟩
  rw [show typI 1 = 134 from rfl, show formVal 1 = .agg #[] from rfl]
  go_wp2_with fail
  refine (HI.out _ AA.out.old).mono ?_
  rintro e w2 ⟨rfl, kd, os, hw2⟩
  have hb2 := Lib.below_grow _ ((w.alloc (.cells #[.int .i64 1, .string s, .int .i64 n, .slice a 0 c] 33)).alloc (.cells #[] 134)) (Nat.le_refl _) kd os
  rw [← hw2] at hb2
  have A2 := mkHid (AA.out.below hb2)
  have K2 := mkHid (K1.out.trans (hb2.mono AA.out.hi))
  have O2 := mkHid (others_below O1.out hb2)
  clear hb2 hw2 AA K1 O1
  go_wp2_with fail
  refine (put_new W0 dp B b l [dec n] #[.string (dec n)] _ _ rfl A2.out (by rw [← hT]; unfold exT; rw [← Lib.size_eq]; omega) (by simp) rfl).mono ?_
  rintro e w3 ⟨rfl, hp, hb, hk2⟩
  have M1 := mkHid hp
  have M2 := mkHid (K2.out.trans hb)
  have M3 := mkHid (O2.out.trans hk2)
  clear hp hb hk2 A2 K2 O2
  go_wp2
  go_end0
  exact ⟨rfl, M1.out, M2.out, M3.out⟩

theorem pEx_ok (t : T) : PEx t := by
  refine T.induct ?_ t
  intro k s m kk IH W0 dp B b l a c w hg
  obtain ⟨hs, sh⟩ := good_shape hg
  have go : PEx (.node k s m kk) := by
    cases sh with
    | num h hk h0 h1 =>
      subst h hk
      obtain ⟨n, hn⟩ : ∃ n : Nat, m = n := ⟨m.toNat, by omega⟩
      subst hn
      exact pEx_num s n (by omega)
    | var h hk => subst h hk; exact pEx_var s m
    | len h hk => subst h hk; exact pEx_len s m
    | cell h x hk hx => subst h hk; exact pEx_cell s m x (IH x (by simp)) hx
    | neg h x hk hx => subst h hk; exact pEx_neg s m x (IH x (by simp)) hx
    | pair h x y hk hx hy =>
      subst hk
      rcases h with rfl | rfl | rfl
      · exact pEx_pair6 s m x y (IH x (by simp)) (IH y (by simp)) hx hy
      · exact pEx_pair7 s m x y (IH x (by simp)) (IH y (by simp)) hx hy
      · exact pEx_pair8 s m x y (IH x (by simp)) (IH y (by simp)) hx hy
    | cond h x y hk hx hy => subst hk; exact pEx_cond k s m x y h (IH x (by simp)) (IH y (by simp)) hx hy
  exact go W0 dp B b l a c w hg
end Go.Proofs.YtpebfdplapeejaaGreatDoor
namespace Go.Proofs.YtpebfdplapeejaaGreatDoor
open Go.RowKit
open Pl

end Go.Proofs.YtpebfdplapeejaaGreatDoor
namespace Go.Proofs.YtpebfdplapeejaaGreatDoor
open Go.RowKit
open Pl

/-- Where the specification's reader stands: at a word, or at the word that cannot stand. -/
abbrev St2 := Nat × Bool
/-- What a part of the specification's reader answers, against the plain reading. -/
def SR (r : Res) (st : St2) (t : T) (st' : St2) : Prop := if st.2 = true then st' = st else match r with
  | .ok t' j => t = t' ∧ st' = (j, false)
  | .no p => st' = (p, true)
theorem SR.ok {i j : Nat} {t t' : T} {st' : St2} (h : SR (.ok t' j) (i, false) t st') : t = t' ∧ st' = (j, false) := by simpa [SR] using h
theorem SR.no {i p : Nat} {t : T} {st' : St2} (h : SR (.no p) (i, false) t st') : st' = (p, true) := by simpa [SR] using h
end Go.Proofs.YtpebfdplapeejaaGreatDoor
namespace Go.Proofs.YtpebfdplapeejaaGreatDoor
open Go.RowKit
open Pl

end Go.Proofs.YtpebfdplapeejaaGreatDoor
namespace Go.Proofs.YtpebfdplapeejaaGreatDoor
open Go.RowKit
open Pl

theorem sg {s : ByteArray} (h : signs.contains s.data.toList = true) : signB s = true := by unfold signB; rw [Lib.toList_data]; exact h
theorem toL_app (a b : ByteArray) : (a ++ b).data.toList = a.data.toList ++ b.data.toList := by simp
/-- A stretch that does not open with the sign for equal. -/
def Hd (l : List UInt8) : Prop := ∃ c r, l = c :: r ∧ c.toNat ≠ 61
theorem Hd.app {l : List UInt8} (h : Hd l) (m : List UInt8) : Hd (l ++ m) := by
  obtain ⟨c, r, rfl, hc⟩ := h
  exact ⟨c, r ++ m, rfl, hc⟩
theorem Hd.noEq {l : List UInt8} (h : Hd l) (suf : List UInt8) : NoEq (l ++ suf) := by
  obtain ⟨c, r, rfl, hc⟩ := h
  exact .inr ⟨c, r ++ suf, rfl, hc⟩
def parT (k : Int) (t : List ByteArray) (least : Int) : List ByteArray := if tightI k < least then [⟨#[40]⟩] ++ t ++ [⟨#[41]⟩] else t
def layT (k : Int) (s : ByteArray) (m : Int) (ka : Int) (a : List ByteArray) (kb : Int) (b : List ByteArray) : List ByteArray :=
  if k = 1 then [dec m.toNat] else
  if k = 2 then [s] else
  if k = 3 then [s] ++ [⟨#[91]⟩] ++ a ++ [⟨#[93]⟩] else
  if k = 4 then [⟨#[108, 101, 110]⟩] ++ [⟨#[40]⟩] ++ [s] ++ [⟨#[41]⟩] else
  if k = 5 then [⟨#[45]⟩] ++ parT ka a 3 else
  if k = 6 then parT ka a 1 ++ [⟨#[43]⟩] ++ parT kb b 2 else
  if k = 7 then parT ka a 1 ++ [⟨#[45]⟩] ++ parT kb b 2 else
  if k = 8 then parT ka a 2 ++ [⟨#[42]⟩] ++ parT kb b 3 else
  a ++ [signI k] ++ b
def none3 : Int × List ByteArray := (0, [])
mutual
def tE : T → List ByteArray
  | .node k s m kk => layT k s m ((tEs kk)[0]?.getD none3).1 ((tEs kk)[0]?.getD none3).2 ((tEs kk)[1]?.getD none3).1 ((tEs kk)[1]?.getD none3).2
def tEs : List T → List (Int × List ByteArray)
  | [] => []
  | t :: r => (kindT t, tE t) :: tEs r
end
theorem shape_name {k m : Int} {s : ByteArray} {kk : List T} (h : formedT (.node k s m kk) = true) (hs : (shapeI k).2.1 = true) : nameB s = true := by
  obtain ⟨hh, _, _⟩ := formed_parts h
  unfold formHead at hh
  generalize shapeI k = sh at hh hs
  obtain ⟨ks, nm, sm⟩ := sh
  simp only at hs
  subst hs
  simp at hh
  simpa using hh.1.2
end Go.Proofs.YtpebfdplapeejaaGreatDoor
namespace Go.Proofs.YtpebfdplapeejaaGreatDoor
open Go.RowKit
open Pl

/-- The words from place i on. -/
def X (ws : List W3) (i : Nat) : List ByteArray := (ws.map W3.s).drop i
theorem X_at {ws : List W3} {i : Nat} {s : ByteArray} {r : List ByteArray} (h : X ws i = s :: r) : i < ws.length ∧ textW ws i = s ∧ X ws (i + 1) = r ∧ ∀ t, isW ws i t = decide (s = t) := by
  unfold X at h ⊢
  have hl : i < ws.length := by
    rcases Nat.lt_or_ge i ws.length with q | q
    · exact q
    · rw [List.drop_eq_nil_of_le (by simpa using q)] at h; cases h
  have hd := List.drop_eq_getElem_cons (l := ws.map W3.s) (i := i) (by simpa using hl)
  rw [hd] at h
  injection h with h1 h2
  have ht : textW ws i = s := by
    unfold textW
    rw [List.getElem?_eq_getElem hl]
    simpa using h1
  exact ⟨hl, ht, h2, fun t => by rw [isW_of_text hl, ht]⟩
theorem X_app {ws : List W3} {i : Nat} {a r : List ByteArray} (h : X ws i = a ++ r) : X ws (i + a.length) = r := by
  unfold X at h ⊢
  rw [← List.drop_drop, h, List.drop_left]
theorem X_not {ws : List W3} {i : Nat} {r : List ByteArray} {t : ByteArray} (h : X ws i = r) (hn : r.head? ≠ some t) : isW ws i t = false := by
  cases r with
  | nil =>
    refine isW_end _ ?_
    unfold X at h
    have := congrArg List.length h
    simp at this
    omega
  | cons s q =>
    rw [(X_at h).2.2.2]
    simp at hn ⊢
    exact hn
theorem hne {s t : ByteArray} {r : List ByteArray} (h : s ≠ t) : (s :: r).head? ≠ some t := by simpa using h
def STAR : ByteArray := ⟨#[42]⟩
def OPEN : ByteArray := ⟨#[91]⟩
structure Rt (ws : List W3) (e : T) : Prop where
  S : ∀ (i : Nat) (rest : List ByteArray) (f : Nat), X ws i = tE e ++ rest → rest.head? ≠ some STAR → rest.head? ≠ some OPEN → 5 * (tE e).length + 3 ≤ f → ∃ f', f ≤ f' + 1 + (tE e).length ∧ mExpr ws f i = mExprL ws f' e (i + (tE e).length)
  M : 2 ≤ tightI (kindT e) → ∀ (i : Nat) (rest : List ByteArray) (f : Nat), X ws i = tE e ++ rest → rest.head? ≠ some OPEN → 5 * (tE e).length + 2 ≤ f → ∃ f', f ≤ f' + 1 + (tE e).length ∧ mTerm ws f i = mTermL ws f' e (i + (tE e).length)
  O : 3 ≤ tightI (kindT e) → ∀ (i : Nat) (rest : List ByteArray) (f : Nat), X ws i = tE e ++ rest → rest.head? ≠ some OPEN → 5 * (tE e).length + 1 ≤ f → mOne ws f i = .ok e (i + (tE e).length)
  pos : 1 ≤ (tE e).length
theorem termL_ok {ws : List W3} {f : Nat} {e : T} {j : Nat} (h : isW ws j STAR = false) (hf : 1 ≤ f) : mTermL ws f e j = .ok e j := by
  obtain ⟨g, rfl⟩ : ∃ g, f = g + 1 := ⟨f - 1, by omega⟩
  simp only [mTermL]
  rw [if_neg (by rw [show isW ws j ⟨#[42]⟩ = false from h]; decide)]
theorem exprL_ok {ws : List W3} {f : Nat} {e : T} {j : Nat} (h1 : isW ws j ⟨#[43]⟩ = false) (h2 : isW ws j ⟨#[45]⟩ = false) (hf : 1 ≤ f) : mExprL ws f e j = .ok e j := by
  obtain ⟨g, rfl⟩ : ∃ g, f = g + 1 := ⟨f - 1, by omega⟩
  simp only [mExprL]
  rw [if_neg (by rw [h1]; decide), if_neg (by rw [h2]; decide)]
/-- A whole expression, where nothing behind goes on with it. -/
theorem Rt.whole {ws : List W3} {e : T} (h : Rt ws e) {i : Nat} {rest : List ByteArray} {f : Nat} (hX : X ws i = tE e ++ rest) (h1 : rest.head? ≠ some STAR) (h2 : rest.head? ≠ some OPEN) (h3 : rest.head? ≠ some ⟨#[43]⟩) (h4 : rest.head? ≠ some ⟨#[45]⟩) (hf : 5 * (tE e).length + 3 ≤ f) :
    mExpr ws f i = .ok e (i + (tE e).length) := by
  obtain ⟨f', hf', e1⟩ := h.S i rest f hX h1 h2 hf
  have hp := h.pos
  rw [e1, exprL_ok (X_not (X_app hX) h3) (X_not (X_app hX) h4) (by omega)]
/-- In brackets. -/
theorem Rt.inPar {ws : List W3} {e : T} (h : Rt ws e) {i : Nat} {rest : List ByteArray} {f : Nat} (hX : X ws i = ([(⟨#[40]⟩ : ByteArray)] ++ tE e ++ [(⟨#[41]⟩ : ByteArray)]) ++ rest) (hf : 5 * ((tE e).length + 2) + 1 ≤ f) : mOne ws f i = .ok e (i + ((tE e).length + 2)) := by
  obtain ⟨g, rfl⟩ : ∃ g, f = g + 1 := ⟨f - 1, by omega⟩
  have hX' : X ws i = (⟨#[40]⟩ : ByteArray) :: (tE e ++ (⟨#[41]⟩ :: rest)) := by rw [hX]; simp
  obtain ⟨_, _, x1, w1⟩ := X_at hX'
  have hm := h.whole (f := g) x1 (hne (by decide)) (hne (by decide)) (hne (by decide)) (hne (by decide)) (by omega)
  obtain ⟨_, _, _, w2⟩ := X_at (X_app x1)
  simp only [mOne]
  rw [if_neg (by rw [w1]; decide), if_pos (by rw [w1]; decide), hm]
  simp only [Res.then_, want]
  rw [if_pos (by rw [w2]; decide)]
  congr 1; omega
theorem Rt.opM {ws : List W3} {e : T} (h : Rt ws e) {i : Nat} {rest : List ByteArray} {f : Nat} (hX : X ws i = parT (kindT e) (tE e) 2 ++ rest) (h2 : rest.head? ≠ some OPEN) (hf : 5 * (parT (kindT e) (tE e) 2).length + 2 ≤ f) :
    ∃ f', f ≤ f' + 1 + (parT (kindT e) (tE e) 2).length ∧ mTerm ws f i = mTermL ws f' e (i + (parT (kindT e) (tE e) 2).length) := by
  unfold parT at hX hf ⊢
  split
  · rename_i q
    rw [if_pos q] at hX hf
    have hl : ([(⟨#[40]⟩ : ByteArray)] ++ tE e ++ [(⟨#[41]⟩ : ByteArray)]).length = (tE e).length + 2 := by simp
    rw [hl] at hf ⊢
    obtain ⟨g, rfl⟩ : ∃ g, f = g + 1 := ⟨f - 1, by omega⟩
    refine ⟨g, by omega, ?_⟩
    simp only [mTerm]
    rw [h.inPar hX (by omega)]
    rfl
  · rename_i q
    rw [if_neg q] at hX hf
    exact h.M (by omega) i rest f hX h2 hf
theorem par_pos {k : Int} {t : List ByteArray} {l : Int} (h : 1 ≤ t.length) : 1 ≤ (parT k t l).length := by
  unfold parT
  split
  · simp
  · exact h
theorem tight1 (k : Int) : 1 ≤ tightI k := by
  unfold tightI
  split
  · decide
  · split <;> decide
theorem par1 (k : Int) (t : List ByteArray) : parT k t 1 = t := by
  unfold parT
  rw [if_neg (by have := tight1 k; omega)]
theorem sums {ws : List W3} {a b : T} (ha : Rt ws a) (hb : Rt ws b) (k : Int) (c : UInt8) (hc : (k = 6 ∧ c = 43) ∨ (k = 7 ∧ c = 45)) (i : Nat) (rest : List ByteArray) (f : Nat) (hX : X ws i = (parT (kindT a) (tE a) 1 ++ [(⟨#[c]⟩ : ByteArray)] ++ parT (kindT b) (tE b) 2) ++ rest) (h1 : rest.head? ≠ some STAR) (h2 : rest.head? ≠ some OPEN)
    (hf : 5 * (parT (kindT a) (tE a) 1 ++ [(⟨#[c]⟩ : ByteArray)] ++ parT (kindT b) (tE b) 2).length + 3 ≤ f) :
    ∃ f', f ≤ f' + 1 + (parT (kindT a) (tE a) 1 ++ [(⟨#[c]⟩ : ByteArray)] ++ parT (kindT b) (tE b) 2).length ∧ mExpr ws f i = mExprL ws f' (.node k nil_ 0 [a, b]) (i + (parT (kindT a) (tE a) 1 ++ [(⟨#[c]⟩ : ByteArray)] ++ parT (kindT b) (tE b) 2).length) := by
  rw [par1] at hX hf ⊢
  have hl : (tE a ++ [(⟨#[c]⟩ : ByteArray)] ++ parT (kindT b) (tE b) 2).length = (tE a).length + 1 + (parT (kindT b) (tE b) 2).length := by simp; omega
  rw [hl] at hf ⊢
  have hX' : X ws i = tE a ++ ((⟨#[c]⟩ : ByteArray) :: (parT (kindT b) (tE b) 2 ++ rest)) := by rw [hX]; simp
  have hne : ∀ t : UInt8, t ≠ c → ((⟨#[c]⟩ : ByteArray) :: (parT (kindT b) (tE b) 2 ++ rest) : List ByteArray).head? ≠ some ⟨#[t]⟩ := fun t ht => by
    simp only [List.head?_cons, ne_eq, Option.some.injEq]
    intro q
    injection q with q
    injection q with q
    injection q with q
    exact ht q.symm
  have hpb := par_pos (k := kindT b) (l := 2) hb.pos
  obtain ⟨f1, hf1, e1⟩ := ha.S i _ f hX' (hne 42 (by rcases hc with ⟨_, rfl⟩ | ⟨_, rfl⟩ <;> decide)) (hne 91 (by rcases hc with ⟨_, rfl⟩ | ⟨_, rfl⟩ <;> decide)) (by omega)
  obtain ⟨_, _, x2, w2⟩ := X_at (X_app hX')
  obtain ⟨g, rfl⟩ : ∃ g, f1 = g + 1 := ⟨f1 - 1, by omega⟩
  obtain ⟨f2, hf2, e2⟩ := hb.opM (f := g) x2 h2 (by omega)
  refine ⟨g, by omega, ?_⟩
  rw [e1]
  simp only [mExprL]
  have hend : mTerm ws g (i + (tE a).length + 1) = .ok b (i + (tE a).length + 1 + (parT (kindT b) (tE b) 2).length) := by
    rw [e2, termL_ok (X_not (X_app x2) h1) (by omega)]
  rcases hc with ⟨rfl, rfl⟩ | ⟨rfl, rfl⟩
  · rw [if_pos (by rw [w2]; decide), hend]
    simp only [Res.then_]
    congr 1; omega
  · rw [if_neg (by rw [w2]; decide), if_pos (by rw [w2]; decide), hend]
    simp only [Res.then_]
    congr 1; omega
theorem no_name {k m : Int} {s : ByteArray} {kk : List T} (h : formedT (.node k s m kk) = true) (hs : (shapeI k).2.1 = false) : s = nil_ := by
  obtain ⟨hh, _, _⟩ := formed_parts h
  unfold formHead at hh
  generalize shapeI k = sh at hh hs
  obtain ⟨ks, nm, sm⟩ := sh
  simp at hh
  simp only at hs
  subst hs
  have := hh.1.1.2
  simp at this
  exact this
theorem no_num {k m : Int} {s : ByteArray} {kk : List T} (h : formedT (.node k s m kk) = true) (q1 : k ≠ 1) (q2 : k ≠ 32) : m = 0 := by
  obtain ⟨_, hn, _⟩ := formed_parts h
  unfold numOk at hn
  rw [if_neg q1, if_neg q2] at hn
  simpa using hn
end Go.Proofs.YtpebfdplapeejaaGreatDoor
namespace Go.Proofs.YtpebfdplapeejaaGreatDoor
open Go.RowKit
open Pl

def kidsEmpty : T → Bool
  | .node _ _ _ kk => kk.isEmpty
def catS : List ByteArray → ByteArray
  | [] => ⟨#[]⟩
  | a :: r => a ++ catS r
def e0 (l : List (Int × ByteArray)) (i : Nat) : ByteArray := (l[i]?.getD none2).2
def m0 (l : List ByteArray) (i : Nat) : ByteArray := l[i]?.getD ⟨#[]⟩
def numS (m : Int) : ByteArray := if 0 ≤ m then dec m.toNat else ⟨#[63]⟩
/-- The lines: of the texts of the kids as expressions, as lines further in, as lines as far in; whether the third kid is empty. -/
def layL (k : Int) (s : ByteArray) (m : Int) (pad : ByteArray) (es : List (Int × ByteArray)) (more same : List ByteArray) (z : Bool) : ByteArray :=
  if k = 31 then pad ++ ⟨#[118, 97, 114, 32]⟩ ++ s ++ ⟨#[59, 10]⟩ else
  if k = 32 then pad ++ ⟨#[97, 114, 114, 97, 121, 32]⟩ ++ s ++ ⟨#[91]⟩ ++ numS m ++ ⟨#[93, 59, 10]⟩ else
  if k = 21 then pad ++ s ++ ⟨#[32, 61, 32]⟩ ++ e0 es 0 ++ ⟨#[59, 10]⟩ else
  if k = 22 then pad ++ s ++ ⟨#[91]⟩ ++ e0 es 0 ++ ⟨#[93, 32, 61, 32]⟩ ++ e0 es 1 ++ ⟨#[59, 10]⟩ else
  if k = 23 then pad ++ ⟨#[114, 101, 97, 100, 32]⟩ ++ s ++ ⟨#[59, 10]⟩ else
  if k = 27 then pad ++ ⟨#[99, 104, 101, 99, 107, 32]⟩ ++ e0 es 0 ++ ⟨#[59, 10]⟩ else
  if k = 28 then pad ++ ⟨#[115, 107, 105, 112, 59, 10]⟩ else
  if k = 29 then pad ++ ⟨#[115, 116, 111, 112, 59, 10]⟩ else
  if k = 25 then pad ++ ⟨#[119, 104, 105, 108, 101, 32]⟩ ++ e0 es 0 ++ ⟨#[32, 123, 10]⟩ ++ m0 more 1 ++ pad ++ ⟨#[125, 10]⟩ else
  if k = 26 then pad ++ ⟨#[102, 111, 114, 32]⟩ ++ s ++ ⟨#[32, 102, 114, 111, 109, 32]⟩ ++ e0 es 0 ++ ⟨#[32, 116, 111, 32]⟩ ++ e0 es 1 ++ ⟨#[32, 123, 10]⟩ ++ m0 more 2 ++ pad ++ ⟨#[125, 10]⟩ else
  if k = 24 then (if z then pad ++ ⟨#[105, 102, 32]⟩ ++ e0 es 0 ++ ⟨#[32, 123, 10]⟩ ++ m0 more 1 ++ pad ++ ⟨#[125, 10]⟩ else
    pad ++ ⟨#[105, 102, 32]⟩ ++ e0 es 0 ++ ⟨#[32, 123, 10]⟩ ++ m0 more 1 ++ pad ++ ⟨#[125, 32, 101, 108, 115, 101, 32, 123, 10]⟩ ++ m0 more 2 ++ pad ++ ⟨#[125, 10]⟩) else
  catS same
mutual
def lnS : T → ByteArray → ByteArray
  | .node k s m kk, pad => layL k s m pad (exSs kk) (lnSs kk (pad ++ ⟨#[32, 32]⟩)) (lnSs kk pad) ((kk[2]?.map kidsEmpty).getD true)
def lnSs : List T → ByteArray → List ByteArray
  | [], _ => []
  | t :: r, pad => lnS t pad :: lnSs r pad
end

/-- A block that is formed. -/
def GoodB (t : T) : Prop := formedT t = true ∧ kindT t = 30
def GoodC (t : T) : Prop := formedT t = true ∧ 11 ≤ kindT t ∧ kindT t ≤ 16
def GoodS (t : T) : Prop := formedT t = true ∧ 21 ≤ kindT t ∧ kindT t ≤ 29
def GoodD (t : T) : Prop := formedT t = true ∧ (kindT t = 31 ∨ kindT t = 32)
theorem GoodC.good {t : T} (h : GoodC t) : Good t := ⟨h.1, .inr h.2⟩
inductive ShpS (k m : Int) (s : ByteArray) (kk : List T) : Prop
  | set (h : k = 21) (x : T) (hk : kk = [x]) (hx : Good1 x) (hn : nameB s = true) (hm : m = 0)
  | put (h : k = 22) (x y : T) (hk : kk = [x, y]) (hx : Good1 x) (hy : Good1 y) (hn : nameB s = true) (hm : m = 0)
  | read (h : k = 23) (hk : kk = []) (hn : nameB s = true) (hm : m = 0)
  | ifs (h : k = 24) (c b d : T) (hk : kk = [c, b, d]) (hc : GoodC c) (hb : GoodB b) (hd : GoodB d) (hs : s = nil_) (hm : m = 0)
  | whil (h : k = 25) (c b : T) (hk : kk = [c, b]) (hc : GoodC c) (hb : GoodB b) (hs : s = nil_) (hm : m = 0)
  | fors (h : k = 26) (x y b : T) (hk : kk = [x, y, b]) (hx : Good1 x) (hy : Good1 y) (hb : GoodB b) (hn : nameB s = true) (hm : m = 0)
  | chec (h : k = 27) (c : T) (hk : kk = [c]) (hc : GoodC c) (hs : s = nil_) (hm : m = 0)
  | skip (h : k = 28) (hk : kk = []) (hs : s = nil_) (hm : m = 0)
  | stop (h : k = 29) (hk : kk = []) (hs : s = nil_) (hm : m = 0)
theorem len1 {kk : List T} (h : kk.length = 1) : ∃ x, kk = [x] := List.length_eq_one_iff.1 h
theorem len2 {kk : List T} (h : kk.length = 2) : ∃ x y, kk = [x, y] := by
  match kk, h with
  | [x, y], _ => exact ⟨x, y, rfl⟩
theorem len3 {kk : List T} (h : kk.length = 3) : ∃ x y z, kk = [x, y, z] := by
  match kk, h with
  | [x, y, z], _ => exact ⟨x, y, z, rfl⟩
theorem arity {k m : Int} {s : ByteArray} {kk : List T} (h : formedT (.node k s m kk) = true) (n : Int) (b : Bool) (e : shapeI k = (n, b, true)) (h0 : 0 ≤ n) : (kk.length : Int) = n := by
  obtain ⟨hh, _, _⟩ := formed_parts h
  unfold formHead at hh
  rw [e] at hh
  simp at hh
  omega
theorem kid_of {k m : Int} {s : ByteArray} {kk : List T} (h : formedT (.node k s m kk) = true) {j : Nat} {t : T} (ht : kk[j]? = some t) : kidI k kk.length j (kindT t) = true ∧ formedT t = true := by
  obtain ⟨_, _, hk⟩ := formed_parts h
  have := hk j t ht
  simpa using this
theorem stmt_shape {k m : Int} {s : ByteArray} {kk : List T} (h : GoodS (.node k s m kk)) : ShpS k m s kk := by
  obtain ⟨h1, h2, h3⟩ := h
  have g2 : 21 ≤ k := h2
  have g3 : k ≤ 29 := h3
  have hm : m = 0 := no_num h1 (by omega) (by omega)
  have kid : ∀ {j : Nat} {t : T}, kk[j]? = some t → kidI k kk.length j (kindT t) = true ∧ formedT t = true := fun ht => kid_of h1 ht
  have hk' : k = 21 ∨ k = 22 ∨ k = 23 ∨ k = 24 ∨ k = 25 ∨ k = 26 ∨ k = 27 ∨ k = 28 ∨ k = 29 := by omega
  rcases hk' with rfl | rfl | rfl | rfl | rfl | rfl | rfl | rfl | rfl
  · have hl := arity h1 1 true rfl (by decide)
    obtain ⟨x, rfl⟩ := len1 (kk := kk) (by omega)
    obtain ⟨a1, a2⟩ := kid (j := 0) (t := x) rfl
    exact .set rfl x rfl ⟨a2, betw_iff a1⟩ (shape_name h1 rfl) hm
  · have hl := arity h1 2 true rfl (by decide)
    obtain ⟨x, y, rfl⟩ := len2 (kk := kk) (by omega)
    obtain ⟨a1, a2⟩ := kid (j := 0) (t := x) rfl
    obtain ⟨b1, b2⟩ := kid (j := 1) (t := y) rfl
    exact .put rfl x y rfl ⟨a2, betw_iff a1⟩ ⟨b2, betw_iff b1⟩ (shape_name h1 rfl) hm
  · have hl := arity h1 0 true rfl (by decide)
    exact .read rfl (List.length_eq_zero_iff.1 (by omega)) (shape_name h1 rfl) hm
  · have hl := arity h1 3 false rfl (by decide)
    obtain ⟨c, b, d, rfl⟩ := len3 (kk := kk) (by omega)
    obtain ⟨a1, a2⟩ := kid (j := 0) (t := c) rfl
    obtain ⟨b1, b2⟩ := kid (j := 1) (t := b) rfl
    obtain ⟨d1, d2⟩ := kid (j := 2) (t := d) rfl
    exact .ifs rfl c b d rfl ⟨a2, betw_iff a1⟩ ⟨b2, by simpa [kidI] using b1⟩ ⟨d2, by simpa [kidI] using d1⟩ (no_name h1 rfl) hm
  · have hl := arity h1 2 false rfl (by decide)
    obtain ⟨c, b, rfl⟩ := len2 (kk := kk) (by omega)
    obtain ⟨a1, a2⟩ := kid (j := 0) (t := c) rfl
    obtain ⟨b1, b2⟩ := kid (j := 1) (t := b) rfl
    exact .whil rfl c b rfl ⟨a2, betw_iff a1⟩ ⟨b2, by simpa [kidI] using b1⟩ (no_name h1 rfl) hm
  · have hl := arity h1 3 true rfl (by decide)
    obtain ⟨x, y, b, rfl⟩ := len3 (kk := kk) (by omega)
    obtain ⟨a1, a2⟩ := kid (j := 0) (t := x) rfl
    obtain ⟨b1, b2⟩ := kid (j := 1) (t := y) rfl
    obtain ⟨d1, d2⟩ := kid (j := 2) (t := b) rfl
    exact .fors rfl x y b rfl ⟨a2, betw_iff a1⟩ ⟨b2, betw_iff b1⟩ ⟨d2, by simpa [kidI] using d1⟩ (shape_name h1 rfl) hm
  · have hl := arity h1 1 false rfl (by decide)
    obtain ⟨c, rfl⟩ := len1 (kk := kk) (by omega)
    obtain ⟨a1, a2⟩ := kid (j := 0) (t := c) rfl
    exact .chec rfl c rfl ⟨a2, betw_iff a1⟩ (no_name h1 rfl) hm
  · have hl := arity h1 0 false rfl (by decide)
    exact .skip rfl (List.length_eq_zero_iff.1 (by omega)) (no_name h1 rfl) hm
  · have hl := arity h1 0 false rfl (by decide)
    exact .stop rfl (List.length_eq_zero_iff.1 (by omega)) (no_name h1 rfl) hm
theorem block_shape {m : Int} {s : ByteArray} {kk : List T} (h : formedT (.node 30 s m kk) = true) : s = nil_ ∧ m = 0 ∧ ∀ t ∈ kk, GoodS t := by
  refine ⟨no_name h rfl, no_num h (by decide) (by decide), fun t ht => ?_⟩
  obtain ⟨j, hj⟩ := List.getElem?_of_mem ht
  obtain ⟨a1, a2⟩ := kid_of h hj
  exact ⟨a2, betw_iff (by simpa [kidI] using a1)⟩
theorem prog_shape {m : Int} {s : ByteArray} {kk : List T} (h : formedT (.node 40 s m kk) = true) : s = nil_ ∧ m = 0 ∧ ∃ ds ss, kk = ds ++ [.node 30 nil_ 0 ss] ∧ (∀ t ∈ ds, GoodD t) ∧ ∀ t ∈ ss, GoodS t := by
  refine ⟨no_name h rfl, no_num h (by decide) (by decide), ?_⟩
  have hne : kk ≠ [] := by
    obtain ⟨hh, _, _⟩ := formed_parts h
    unfold formHead at hh
    simp at hh
    intro e
    subst e
    simp at hh
  obtain ⟨ds, b, rfl⟩ : ∃ ds b, kk = ds ++ [b] := ⟨kk.dropLast, kk.getLast hne, (List.dropLast_concat_getLast hne).symm⟩
  obtain ⟨a1, a2⟩ := kid_of h (j := ds.length) (t := b) (by simp)
  have hb : kindT b = 30 := by simpa [kidI] using a1
  obtain ⟨bk, bs, bm, bkk⟩ := b
  have hb' : bk = 30 := hb
  subst hb'
  obtain ⟨r1, r2, r3⟩ := block_shape a2
  subst r1 r2
  refine ⟨ds, bkk, rfl, fun t ht => ?_, r3⟩
  obtain ⟨j, hj⟩ := List.getElem?_of_mem ht
  have hjl := (List.getElem?_eq_some_iff.1 hj).1
  obtain ⟨c1, c2⟩ := kid_of h (j := j) (t := t) (by rw [List.getElem?_append_left hjl]; exact hj)
  refine ⟨c2, ?_⟩
  have hne2 : j ≠ ds.length := by omega
  simpa [kidI, hne2] using c1
inductive ShpD (k m : Int) (s : ByteArray) (kk : List T) : Prop
  | var (h : k = 31) (hk : kk = []) (hn : nameB s = true) (hm : m = 0)
  | arr (h : k = 32) (hk : kk = []) (hn : nameB s = true) (h0 : -1 ≤ m) (h1 : m ≤ 1000000)
theorem decl_shape {k m : Int} {s : ByteArray} {kk : List T} (h : GoodD (.node k s m kk)) : ShpD k m s kk := by
  obtain ⟨h1, h2⟩ := h
  have h2' : k = 31 ∨ k = 32 := h2
  rcases h2' with rfl | rfl
  · have hl := arity h1 0 true rfl (by decide)
    exact .var rfl (List.length_eq_zero_iff.1 (by omega)) (shape_name h1 rfl) (no_num h1 (by decide) (by decide))
  · have hl := arity h1 0 true rfl (by decide)
    obtain ⟨_, hn, _⟩ := formed_parts h1
    have := betw_iff (show betw m (-1) 1000000 = true from hn)
    exact .arr rfl (List.length_eq_zero_iff.1 (by omega)) (shape_name h1 rfl) this.1 this.2
end Go.Proofs.YtpebfdplapeejaaGreatDoor
