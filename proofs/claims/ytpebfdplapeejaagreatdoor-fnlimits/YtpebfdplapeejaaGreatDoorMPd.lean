/-
  CONTRACTS of the program's declare, declared.troubleOf: what is declared, in a map by name.
  PURE: what Check tells.
-/
import Derived.Test.YtpebfdplapeejaaGreatDoorMCc
import Derived.Maps.OwnOps
import Derived.Maps.Views
import Derived.Deep.QuietTactic
import Derived.BigQuiet
import Derived.WalkSmall
import Derived.Test.YtpebfdplapeejaaGreatDoorMBase
namespace Go.Proofs.YtpebfdplapeejaaGreatDoor
open Go.RowKit Go.WideMaps Go.Maps
open Pl

theorem strLaw : Keyed Tryz.prog 9 := string_keyed Tryz.underlying9
theorem zero3 (w : World) : (zeroValue 3).run Tryz.prog w = .ok (.int .i64 0) w := by kernel_rfl
def keyL (s : ByteArray) : Lit := .string s.data.toList
theorem keyB_of {s : ByteArray} (h : s.size ≤ maxLen) : keyOf Tryz.prog 9 (.string s) = some (keyL s) := keyOf_string_mk Tryz.underlying9 h
theorem keyB_inj {s t : ByteArray} (h : keyL s = keyL t) : s = t := by
 unfold keyL at h
 simp only [Lit.string.injEq] at h
 obtain ⟨⟨a⟩⟩ := s
 obtain ⟨⟨b⟩⟩ := t
 simp only at h
 rw [h]
/-- Block b is a map that has f. -/
def MapIs (w : World) (b n : Nat) (f : ByteArray → Int) : Prop :=
 ∃ D : DataW Unit, w.ownsMap Tryz.prog 9 (plainElem Tryz.prog 3) b n D ∧ IsMap D ∧ ∀ s : ByteArray, s.size ≤ maxLen → D.atKey (keyL s) (.lit (.int .i64 0)) = .lit (.int .i64 (f s))
theorem MapIs.below {w w' : World} {b n : Nat} {f : ByteArray → Int} (h : MapIs w b n f) (hb : Below w.heap.size w w') : MapIs w' b n f := by
 obtain ⟨D, ho, h2⟩ := h
 have hlt := ho.lt
 obtain ⟨es, clock, h1, hF⟩ := ho
 exact ⟨D, ⟨es, clock, (hb.block b hlt).trans h1, hF⟩, h2⟩
theorem MapIs.lt {w : World} {b n : Nat} {f : ByteArray → Int} (h : MapIs w b n f) : b < w.heap.size := by
 obtain ⟨D, ho, _⟩ := h
 exact ho.lt
theorem MapIs.look {w : World} {b n : Nat} {f : ByteArray → Int} (h : MapIs w b n f) {s : ByteArray} (hs : s.size ≤ maxLen) : (Instr.lookup 67 (.map (some b)) (.string s) false).run Tryz.prog w = .ok (.int .i64 (f s)) w := by
 obtain ⟨D, ho, _, hf⟩ := h
 obtain ⟨c, hr, hat, _⟩ := ho.lookup_int strLaw Tryz.underlying67 Tryz.underlying3 (zero3 _) (keyB_of hs)
 rw [hf s hs] at hat
 simp at hat
 rw [hr, hat]
theorem MapIs.made (w : World) : MapIs (w.alloc (.map #[] 0)) w.heap.size 0 (fun _ => 0) := ⟨.map [], World.ownsMap_made _ _ _ _, ⟨[], rfl⟩, fun _ _ => rfl⟩
def updF (f : ByteArray → Int) (s : ByteArray) (v : Int) : ByteArray → Int := fun x => if s = x then v else f x
theorem MapIs.put {w : World} {b n : Nat} {f : ByteArray → Int} (h : MapIs w b n f) {s : ByteArray} {v : Int} (hn : n < 10000) (hs : s.size ≤ maxLen) (hv : (Lit.int .i64 v).wf = true) :
  ∃ w', (Instr.mapUpdate 67 (.map (some b)) (.string s) (.int .i64 v)).run Tryz.prog w = .ok () w' ∧ MapIs w' b (n + 1) (updF f s v) ∧ w.grownBy w' (some b) := by
 obtain ⟨D, ho, hm, hf⟩ := h
 obtain ⟨w', h1, h2, h3⟩ := ho.update strLaw Tryz.underlying67 (by unfold maxLen; omega) (keyB_of hs) (plainElem_int Tryz.underlying3 hv)
 refine ⟨w', h1, ⟨_, h2, ?_, fun x hx => ?_⟩, h3⟩
 ·obtain ⟨es, rfl⟩ := hm
  exact ⟨_, rfl⟩
 ·unfold updF
  by_cases e : s = x
  ·subst e
   rw [if_pos rfl]
   exact atKey_put_same hm (strLaw.key (keyB_of hs)) _ _
  ·rw [if_neg e, atKey_put_other (fun q => e (keyB_inj q).symm), hf x hx]
theorem updF_take {D : List T} {i : Nat} {t : T} (hx : D[i]? = some t) (hd : Dk D) (hz : lookD (D.take i) (nameT t) = 0) : updF (lookD (D.take i)) (nameT t) (kindT t) = lookD (D.take (i + 1)) := by
 funext s
 rw [take_snoc hx, look_snoc (dk_take hd i) t hz]
 rfl
/-- What declare answers. -/
def DeclPost (D : List T) (w : World) (e : Ending) (w' : World) : Prop := Below w.heap.size w w' ∧
 match twiceD [] D with
 | some s => e = .returned (.tuple #[.map none, errV 6 s])
 | none => e = .returned (.tuple #[.map (some w.heap.size), .nilIface]) ∧ MapIs w' w.heap.size D.length (lookD D)

set_option maxRecDepth 100000 in
set_option maxHeartbeats 3200000 in
theorem declare_any (D : List T) (a : Option Addr) (c : Nat) (w : World) (hn : D.length ≤ 1000) (hk : Kids w 0 a D) (hd : Dk D) : Calls Tryz.prog 38 #[.slice a D.length c] w (DeclPost D w) := by
 have HK := mkHid hk
 have HD := mkHid hd
 clear hk hd
 have hmm := @run_makeMap Tryz.prog
 have HM := mkHid (MapIs.made w)
 have HB0 := mkHid ((Below.refl w.heap.size w).alloc (Nat.le_refl _) (.map #[] 0))
 go_enter Tryz.func38, Tryz.ntmps38
 go_wp2
 go_loopg [10] D.length (fun g s10 wr => ∃ (k : Nat), k + g = D.length ∧ s10 = .int .i64 k ∧ MapIs wr w.heap.size k (lookD (D.take k)) ∧ twiceD [] D = twiceD (D.take k) (D.drop k) ∧ Below w.heap.size w wr)
 case atStart => exact ⟨0, by omega, rfl, HM.out, rfl, HB0.out⟩
 case round =>
  obtain ⟨k, hkg, rfl, hmp, htw, hbel⟩ := hrel
  have HMP := mkHid hmp
  have HTW := mkHid htw
  have HB := mkHid hbel
  clear hmp htw HM HB0
  by_cases hlt : k < D.length
  ·obtain ⟨x, hx⟩ : ∃ x, D[k]? = some x := ⟨_, List.getElem?_eq_getElem hlt⟩
   have HX := mkHid hx
   have hkd := HD.out x (List.mem_of_getElem? hx)
   obtain ⟨xk, xs, xm, xkk⟩ := x
   obtain ⟨b, o, xa, xc, rfl, c0, c1, c2, c3, hxs, _, _⟩ := node_at HK.out hbel hx
   have i0 : (0 : Int) ≤ (k : Int) := by omega
   have i1 : (k : Int) < (D.length : Int) := by omega
   obtain ⟨g1, rfl⟩ : ∃ q, gk = q + 1 := ⟨gk - 1, by omega⟩
   have w3 : IntKind.i64.wrap ((k : Int) + 1) = (k : Int) + 1 := IntWalk.i64_in _ (by omega)
   have kd : xk = 31 ∨ xk = 32 := hkd
   obtain ⟨M, hM⟩ : ∃ q, w.heap.size = q := ⟨_, rfl⟩
   obtain ⟨P, hP⟩ : ∃ q, wr.heap.size = q := ⟨_, rfl⟩
   obtain ⟨w1, hw1⟩ : ∃ q, wr.alloc (.cells #[.int .i64 xk, .string xs, .int .i64 xm, .slice xa xkk.length xc] 33) = q := ⟨_, rfl⟩
   have HB1 : Hid (Below M w w1) := mkHid (by rw [← hw1, ← hM]; exact hbel.alloc hbel.size _)
   have AL : Below wr.heap.size wr w1 := by rw [← hw1]; exact (Below.refl _ _).alloc (Nat.le_refl _) _
   have HM1 : Hid (MapIs w1 M k (lookD (D.take k))) := mkHid (by rw [← hM]; exact HMP.out.below AL)
   have F0 := Four.new wr xk xs xm xa xkk.length xc 33
   rw [hw1, hP] at F0
   obtain ⟨p0, p1, p2, p3⟩ := F0
   have hlk := HM1.out.look hxs
   obtain ⟨z, hz⟩ : ∃ z, lookD (D.take k) xs = z := ⟨_, rfl⟩
   rw [hz] at hlk
   have HZ := mkHid hz
   have HS := mkHid hxs
   clear hx hbel hkd hz AL hxs
   by_cases h0 : z = 0
   ·subst h0
    obtain ⟨w2, hru, hm2, hg2⟩ := HM1.out.put (s := xs) (v := xk) (by omega) HS.out (by rcases kd with rfl | rfl <;> decide)
    have HM2 := mkHid hm2
    have HB2 : Hid (Below M w w2) := mkHid (HB1.out.grown hg2 (by have := HB1.out.size; omega) (fun q hq => by cases hq; exact Nat.le_refl _))
    have HE := mkHid (updF_take HX.out HD.out HZ.out)
    have HT2 := mkHid (HTW.out.trans (twice_go HX.out HZ.out))
    clear hm2 hg2
    go_wp2_with fail
    first | rw [hw1] | skip
    first | rw [hP] | skip
    go_wp2
    go_roundg g1
    case rel => exact ⟨k + 1, by omega, by simp, by rw [hM, ← HE.out]; exact HM2.out, HT2.out, by rw [hM]; exact HB2.out⟩
    case measure => omega
   ·have hz0 : (z == 0) = false := by simpa using h0
    have HT2 := mkHid (HTW.out.trans (twice_hit HX.out (by show lookD (D.take k) xs ≠ 0; rw [HZ.out]; exact h0)))
    go_wp2_with fail
    first | rw [hw1] | skip
    first | rw [hP] | skip
    go_wp2
    go_quiet (fail)
    go_wp2
    refine bodyPost_ret (v := .tuple #[.map none, errV 6 xs]) (by simp [results, Tryz.results38, go_sem, errV]) rfl ?_
    unfold DeclPost
    rw [HT2.out, hM]
    exact ⟨below_drewN HB1.out _, rfl⟩
  ·have hkl : k = D.length := by omega
   subst hkl
   have i1 : ¬ (D.length : Int) < (D.length : Int) := by omega
   have HT2 := mkHid (HTW.out.trans (twice_end D))
   have HM2 : Hid (MapIs wr w.heap.size D.length (lookD D)) := mkHid (by have := HMP.out; rwa [List.take_length] at this)
   clear HMP HTW
   go_wp2
   refine bodyPost_ret (v := .tuple #[.map (some w.heap.size), .nilIface]) (by simp [results, Tryz.results38, go_sem]) rfl ?_
   unfold DeclPost
   rw [HT2.out]
   exact ⟨HB.out, rfl, HM2.out⟩

set_option maxRecDepth 100000 in
set_option maxHeartbeats 1600000 in
theorem trouble_any (b n : Nat) (f : ByteArray → Int) (k : Int) (s : ByteArray) (m : Int) (a : Option Addr) (l c : Nat) (w : World) (hs : s.size ≤ maxLen) (hm : MapIs w b n f) :
  Calls Tryz.prog 55 #[.map (some b), .agg #[.int .i64 k, .string s, .int .i64 m, .slice a l c]] w fun e w' => e = .returned (.int .i64 (trbl f k s)) ∧ Below w.heap.size w w' := by
 have B0 : Below w.heap.size w (w.alloc (.cells #[.int .i64 k, .string s, .int .i64 m, .slice a l c] 33)) := (Below.refl _ _).alloc (Nat.le_refl _) _
 have HB := mkHid B0
 have HM := mkHid (hm.below B0)
 obtain ⟨p0, p1, p2, p3⟩ := Four.new w k s m a l c 33
 obtain ⟨P, hP⟩ : ∃ q, w.heap.size = q := ⟨_, rfl⟩
 obtain ⟨w1, hw1⟩ : ∃ q, w.alloc (.cells #[.int .i64 k, .string s, .int .i64 m, .slice a l c] 33) = q := ⟨_, rfl⟩
 rw [hw1] at HB HM p0 p1 p2 p3
 rw [hP] at p0 p1 p2 p3
 obtain ⟨r, hr⟩ : ∃ r, trbl f k s = r := ⟨_, rfl⟩
 have HR := mkHid hr
 rw [hr]
 obtain ⟨z, hz⟩ : ∃ z, f s = z := ⟨_, rfl⟩
 obtain ⟨d, hd⟩ : ∃ z, declK k = z := ⟨_, rfl⟩
 unfold trbl at HR
 rw [hz, hd] at HR
 have hdk : ∀ W, Calls Tryz.prog 69 #[.int .i64 k] W fun e w' => e = .returned (.int .i64 d) ∧ W = w' := fun W => by rw [← hd]; exact declKind_any k W
 have HDK := mkHid hdk
 have hlk : (Instr.lookup 67 (.map (some b)) (.string s) false).run Tryz.prog w1 = .ok (.int .i64 z) w1 := by rw [← hz]; exact HM.out.look hs
 have hld : (Instr.lookup 67 (.map (some b)) (.string s) false).run Tryz.prog w1.drew = .ok (.int .i64 z) w1.drew := by rw [← hz]; exact MapIs.look (w := w1.drew) (HM.out.below (Below.refl _ _).drew) hs
 clear B0 hm hr hz hd hdk
 go_enter Tryz.func55, Tryz.ntmps55
 go_wp2_with fail
 first | rw [hw1] | skip
 first | rw [hP] | skip
 clear hw1 hP
 go_region_held3 (fun u' => u'.cell? ⟨P, 0, none⟩ = some (.int .i64 k) ∧ u'.cell? ⟨P, 1, none⟩ = some (.string s) ∧ (Instr.lookup 67 (.map (some b)) (.string s) false).run Tryz.prog u' = .ok (.int .i64 z) u')
  (first | exact ⟨p0, p1, hlk⟩ | exact ⟨p0, p1, hld⟩)
  ((go_at_call 69; refine (HDK.out _).mono ?_; rintro e w' ⟨rfl, rfl⟩))
 all_goals
  by_cases e1 : d = z
  ·subst e1
   obtain rfl : (0 : Int) = r := by rw [← HR.out]; simp
   go_wp2
   go_ret
   exact ⟨rfl, HB.out.drew⟩
  ·have q1 : (d == z) = false := by simpa using e1
   by_cases e2 : d = 0
   ·subst e2
    obtain rfl : (0 : Int) = r := by rw [← HR.out]; simp
    go_wp2
    go_ret
    exact ⟨rfl, HB.out.drew⟩
   ·have q2 : (d == 0) = false := by simpa using e2
    by_cases e3 : z = 0
    ·subst e3
     obtain rfl : (7 : Int) = r := by rw [← HR.out]; simp [e2]
     go_wp2
     go_ret
     exact ⟨rfl, HB.out.drew⟩
    ·have q3 : (z == 0) = false := by simpa using e3
     obtain rfl : (8 : Int) = r := by rw [← HR.out]; simp [e1, e2, e3]
     go_wp2
     go_ret
     exact ⟨rfl, HB.out.drew⟩

theorem wrgL_append (p : Int → ByteArray → Bool) (l r : List T) : wrgL p (l ++ r) = (wrgL p l).or (wrgL p r) := by
 induction l with
 | nil => simp [wrgL]
 | cons x l ih => simp only [List.cons_append, wrgL, ih, Option.or_assoc]
theorem wrgL_hit {p : Int → ByteArray → Bool} {kk : List T} {i : Nat} {t : T} {s : ByteArray} (hx : kk[i]? = some t) (h0 : wrgL p (kk.take i) = none) (h1 : wrg p t = some s) : wrgL p kk = some s := by
 rw [← List.take_append_drop i kk, wrgL_append, h0, drop_cons hx]
 simp [wrgL, h1]
theorem wrgL_take {p : Int → ByteArray → Bool} {kk : List T} {i : Nat} {t : T} (hx : kk[i]? = some t) (h0 : wrgL p (kk.take i) = none) (h1 : wrg p t = none) : wrgL p (kk.take (i + 1)) = none := by
 rw [take_snoc hx, wrgL_append, h0]
 simp [wrgL, h1]
def wrV (c : Int) (o : Option ByteArray) : Value := match o with
 | some s => errV c s
 | none => .nilIface
def CheckOk (t : T) : Prop := match t with
 | .node k s m kk => ∀ (b n : Nat) (f : ByteArray → Int) (c : Int) (a : Option Addr) (cc : Nat) (w : World), s.size ≤ maxLen → kk.length ≤ maxLen → Kids w 0 a kk → MapIs w b n f →
  Calls Tryz.prog 39 #[.map (some b), .agg #[.int .i64 k, .string s, .int .i64 m, .slice a kk.length cc], .int .i64 c] w fun e w' => e = .returned (wrV c (wrg (badP f c) (.node k s m kk))) ∧ Below w.heap.size w w'
set_option maxRecDepth 100000 in
set_option maxHeartbeats 3200000 in
theorem chk_any (t : T) : CheckOk t := by
 refine T.induct ?_ t
 intro k s m kk IH b n f c a cc w hs hn hk hm
 unfold maxLen at hn
 have B0 : Below w.heap.size w (w.alloc (.cells #[.int .i64 k, .string s, .int .i64 m, .slice a kk.length cc] 33)) := (Below.refl _ _).alloc (Nat.le_refl _) _
 have HB := mkHid B0
 have HT := mkHid (trouble_any b n f k s m a kk.length cc _ hs (hm.below B0))
 have HI := mkHid IH
 obtain ⟨p0, p1, p2, p3⟩ := Four.new w k s m a kk.length cc 33
 obtain ⟨P, hP⟩ : ∃ q, w.heap.size = q := ⟨_, rfl⟩
 obtain ⟨w1, hw1⟩ : ∃ q, w.alloc (.cells #[.int .i64 k, .string s, .int .i64 m, .slice a kk.length cc] 33) = q := ⟨_, rfl⟩
 have HK := mkHid (hk.below B0)
 have HM := mkHid (hm.below B0)
 rw [hw1] at HB HM HK HT p0 p1 p2 p3
 rw [hP] at p0 p1 p2 p3
 obtain ⟨r, hr⟩ : ∃ r, wrg (badP f c) (.node k s m kk) = r := ⟨_, rfl⟩
 have HR := mkHid hr
 rw [hr]
 obtain ⟨z, hz⟩ : ∃ z, trbl f k s = z := ⟨_, rfl⟩
 rw [hz] at HT
 have HE := mkHid (show (if z = c then some s else wrgL (badP f c) kk) = r by rw [← hr, ← hz]; simp only [wrg, badP, decide_eq_true_eq])
 clear B0 hm hr hz hk IH
 by_cases hzc : z = c
 ·subst hzc
  obtain rfl : some s = r := by rw [← HE.out]; simp
  go_enter Tryz.func39, Tryz.ntmps39
  go_wp2_with fail
  first | rw [hw1] | skip
  first | rw [hP] | skip
  clear hw1 hP
  go_wp2_with (go_at_call 55; refine HT.out.mono ?_; rintro e w2 ⟨rfl, hb2⟩; obtain ⟨q0, q1, q2, q3⟩ := Four.below ⟨p0, p1, p2, p3⟩ hb2)
  go_ret
  exact ⟨rfl, below_step HB.out hb2⟩
 ·have hz0 : (z == c) = false := by simpa using hzc
  have HE2 := mkHid (show wrgL (badP f c) kk = r by rw [← HE.out]; simp [hzc])
  clear HE
  go_enter Tryz.func39, Tryz.ntmps39
  go_wp2_with fail
  first | rw [hw1] | skip
  first | rw [hP] | skip
  clear hw1 hP
  go_wp2_with (go_at_call 55; refine HT.out.mono ?_; rintro e w2 ⟨rfl, hb2⟩; obtain ⟨q0, q1, q2, q3⟩ := Four.below ⟨p0, p1, p2, p3⟩ hb2)
  have HB2 := mkHid hb2
  clear HT hb2 p0 p1 p2 p3 q0 q1 q2 q3 hz0 hzc
  go_loopg [23] kk.length (fun g s23 wr => ∃ (i : Nat), i + g = kk.length ∧ s23 = .int .i64 i ∧ wrgL (badP f c) (kk.take i) = none ∧ Below w1.heap.size w1 wr)
  case atStart => exact ⟨0, by omega, rfl, rfl, HB2.out⟩
  case round =>
   obtain ⟨i, hig, rfl, hno, hbel⟩ := hrel
   have HN := mkHid hno
   have HBL := mkHid hbel
   clear hno HB2
   by_cases hlt : i < kk.length
   ·obtain ⟨x, hx⟩ : ∃ x, kk[i]? = some x := ⟨_, List.getElem?_eq_getElem hlt⟩
    have HX := mkHid hx
    have hix := HI.out x (List.mem_of_getElem? hx)
    obtain ⟨xk, xs, xm, xkk⟩ := x
    obtain ⟨kb, o, xa, xc, rfl, c0, c1, c2, c3, hxs, hxn, hxk⟩ := node_at HK.out hbel hx
    have i0 : (0 : Int) ≤ (i : Int) := by omega
    have i1 : (i : Int) < (kk.length : Int) := by omega
    obtain ⟨g1, rfl⟩ : ∃ q, gk = q + 1 := ⟨gk - 1, by omega⟩
    have w3 : IntKind.i64.wrap ((i : Int) + 1) = (i : Int) + 1 := IntWalk.i64_in _ (by omega)
    obtain ⟨Y, hY⟩ : ∃ q, wr.heap.size = q := ⟨_, rfl⟩
    obtain ⟨w4, hw4⟩ : ∃ q, wr.alloc (.cells #[.int .i64 xk, .string xs, .int .i64 xm, .slice xa xkk.length xc] 33) = q := ⟨_, rfl⟩
    have AL : Below wr.heap.size wr w4 := by rw [← hw4]; exact (Below.refl _ _).alloc (Nat.le_refl _) _
    have HB4 := mkHid (below_step hbel AL)
    have F0 := Four.new wr xk xs xm xa xkk.length xc 33
    rw [hw4, hY] at F0
    obtain ⟨p0, p1, p2, p3⟩ := F0
    have hcl := hix b n f c xa xc w4 hxs hxn (hxk.below AL) (HM.out.below HB4.out)
    clear hx hbel AL hix hxs hxn hxk
    cases ho : wrg (badP f c) (.node xk xs xm xkk) with
    | none =>
     rw [ho] at hcl
     have HC := mkHid hcl
     have HN2 := mkHid (wrgL_take HX.out HN.out ho)
     clear hcl ho
     go_wp2_with fail
     first | rw [hw4] | skip
     first | rw [hY] | skip
     clear hw4 hY
     go_wp2_with (go_at_call 39; refine HC.out.mono ?_; rintro e w5 ⟨rfl, hb5⟩; simp only [wrV])
     go_roundg g1
     case rel => exact ⟨i + 1, by omega, by simp, HN2.out, below_step HB4.out hb5⟩
     case measure => omega
    | some s2 =>
     rw [ho] at hcl
     have HC := mkHid hcl
     obtain rfl : some s2 = r := by rw [← HE2.out, wrgL_hit HX.out HN.out ho]
     clear hcl ho
     go_wp2_with fail
     first | rw [hw4] | skip
     first | rw [hY] | skip
     clear hw4 hY
     go_wp2_with (go_at_call 39; refine HC.out.mono ?_; rintro e w5 ⟨rfl, hb5⟩; simp only [wrV, errV])
     go_ret
     exact ⟨rfl, below_step (below_step HB.out HB4.out) hb5⟩
   ·have hil : i = kk.length := by omega
    subst hil
    have i1 : ¬ (kk.length : Int) < (kk.length : Int) := by omega
    obtain rfl : none = r := by rw [← HE2.out]; have := HN.out; rw [List.take_length] at this; exact this.symm
    go_wp2
    go_ret
    exact ⟨rfl, below_step HB.out HBL.out⟩
end Go.Proofs.YtpebfdplapeejaaGreatDoor
namespace Go.Proofs.YtpebfdplapeejaaGreatDoor
open Go.RowKit
open Pl

/-- What is wrong with a program of these declarations and this block. -/
def trbB (D : List T) (B P : T) : Int × ByteArray :=
  if manyD D = true then (3, ⟨#[]⟩) else match twiceD [] D with
  | some s => (6, s)
  | none => match wrg (badP (lookD D) 7) B with
    | some s => (7, s)
    | none => match wrg (badP (lookD D) 8) B with
      | some s => (8, s)
      | none => if okP P then (0, ⟨#[]⟩) else (5, ⟨#[]⟩)
def lastT (kk : List T) : T := kk.getLastD (.node 0 ⟨#[]⟩ 0 [])
def trb (t : T) : Int × ByteArray := if okP t then trbB (kidsOf t).dropLast (lastT (kidsOf t)) (plnT t) else (4, ⟨#[]⟩)
end Go.Proofs.YtpebfdplapeejaaGreatDoor
