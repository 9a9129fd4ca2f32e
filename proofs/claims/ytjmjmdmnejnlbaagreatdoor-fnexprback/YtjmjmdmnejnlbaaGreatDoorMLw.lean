/-
  FnExprBack holds at every argument, the tables of the library being as the text lays them (the card ties them to it): an expression or a condition is read back from its text. No other conditions.
-/
import Derived.Test.YtjmjmdmnejnlbaaGreatDoorMSm
import Derived.Test.YtjmjmdmnejnlbaaGreatDoorMTz
import Derived.Test.YtjmjmdmnejnlbaaGreatDoorMSpars
import Derived.Test.YtjmjmdmnejnlbaaGreatDoorMRpars
namespace Go.Proofs.YtjmjmdmnejnlbaaGreatDoor
open Go.RowKit
open Pl
theorem tab_below {w w' : World} {name : String} {k : IntKind} {zs : List Int} (h : Lib.TabIs Tryz.prog w name k zs) (hb : Below w.heap.size w w') : Lib.TabIs Tryz.prog w' name k zs := by
 unfold Lib.TabIs World.var? at h ⊢
 cases hg : Tryz.prog.globalNamed name with
 | none => rw [hg] at h; exact h
 | some g =>
  rw [hg] at h
  simp only [Option.bind_some] at h ⊢
  have hlt : g < w.heap.size := by
   rcases Nat.lt_or_ge g w.heap.size with h' | h'
   ·exact h'
   ·rw [Array.getElem?_eq_none h'] at h; cases h
  rw [hb.block g hlt]
  exact h
structure Ly (w u : World) (Q : Nat) (x : A) : Prop where
 sits : Sits u x
 box : u.heap[Q]? = some (.cells x.cells.toArray 26 (0, 0))
 bel : Below w.heap.size w u
theorem Sits.up {u u' : World} {x : A} (h : Sits u x) (hb : Below u.heap.size u u') : Sits u' x := Sits.stay x (fun b hq => hb.block b (Sits.lt x h b hq)) h
theorem Ly.next {w u u' : World} {Q : Nat} {x : A} (h : Ly w u Q x) (hb : Below u.heap.size u u') : Ly w u' Q x := ⟨h.sits.up hb, (hb.block Q (Array.getElem?_eq_some_iff.1 h.box).1).trans h.box, below_step h.bel hb⟩
theorem below_two (w : World) (o p : Obj) : Below w.heap.size w ((w.alloc o).alloc p) := below_step (below_one w o) (below_one _ p)
set_option maxRecDepth 100000 in
set_option maxHeartbeats 32000000 in
theorem law_walk (a : Option Addr) (n c : Nat) (w : World) (hby : Bytes w w.heap.size a n)
    (htab : Lib.TabIs Tryz.prog w "internal/strconv.uint64pow10" .u64 Lib.pow10Tab) :
    Calls Tryz.prog 3 #[.slice a n c] w fun e w' => e = .returned (.bool true) ∧ Below w.heap.size w w' := by
 have hB := big_any n c a w
 by_cases hbig : 1048576 < n
 ·rw [decide_eq_true hbig] at hB
  have HBB := mkHid hB
  clear hB htab hby hbig
  go_enter Tryz.func3, Tryz.ntmps3
  go_wp2_with fail
  refine HBB.out.mono ?_
  rintro e _ ⟨rfl, rfl⟩
  go_wp2
  go_ret
  exact ⟨rfl, Below.refl _ _⟩
 rw [decide_eq_false hbig] at hB
 have HBB := mkHid hB
 have HD := mkHid (sDrawText_any n c a w (by omega) hby)
 have HT := mkHid htab
 clear hB htab hby hbig
 go_enter Tryz.func3, Tryz.ntmps3
 go_wp2_with fail
 refine HBB.out.mono ?_
 rintro e _ ⟨rfl, rfl⟩
 clear HBB
 go_wp2_with fail
 refine HD.out.mono ?_
 rintro e w1 ⟨x, rfl, hxm, hxc, hb1⟩
 clear HD
 have HC := mkHid hxc
 have HL0 := mkHid (show Ly w (w1.alloc (.cells x.cells.toArray 26)) w1.heap.size x from ⟨Sits.up hxm.tree.1 (below_one w1 _), heap_alloc_new w1 _, hb1.alloc hb1.size _⟩)
 clear hxm hxc hb1
 obtain ⟨xk, xs, xm, xa, xc, xkk⟩ := x
 simp only [A.val]
 have HL0 : Hid (Ly w (w1.alloc (.cells #[.int .i64 xk, .string xs, .int .i64 xm, .slice xa xkk.length xc] 26)) w1.heap.size (.node xk xs xm xa xc xkk)) := HL0
 obtain ⟨u1, hu1⟩ : ∃ u, w1.alloc (.cells #[.int .i64 xk, .string xs, .int .i64 xm, .slice xa xkk.length xc] 26) = u := ⟨_, rfl⟩
 obtain ⟨Q, hQ⟩ : ∃ Q, w1.heap.size = Q := ⟨_, rfl⟩
 rw [hu1, hQ] at HL0
 obtain ⟨c0, c1, c2, c3, f0, f1, f2, f3⟩ := four_of (v0 := .int .i64 xk) (v1 := .string xs) (v2 := .int .i64 xm) (v3 := .slice xa xkk.length xc) HL0.out.box
 go_wp2_with fail
 first | rw [hu1] | skip
 refine (iText_A (.node xk xs xm xa xc xkk) _ HL0.out.sits (tab_below HT.out HL0.out.bel)).mono ?_
 rintro e u2 ⟨rfl, hb2⟩
 have HL := mkHid (HL0.out.next hb2)
 clear hb2 HL0 c0 c1 c2 c3 f0 f1 f2 f3 hu1 hQ HT
 obtain ⟨c0, c1, c2, c3, f0, f1, f2, f3⟩ := four_of (v0 := .int .i64 xk) (v1 := .string xs) (v2 := .int .i64 xm) (v3 := .slice xa xkk.length xc) HL.out.box
 have htc := text_cases (A.node xk xs xm xa xc xkk).erase HC.out
 obtain ⟨S, hS⟩ : ∃ S, textT (A.node xk xs xm xa xc xkk).erase = S := ⟨_, rfl⟩
 have HS := mkHid hS
 rw [hS] at htc ⊢
 have HTC := mkHid htc
 clear htc hS
 go_wp2_with fail
 refine (sText_A (.node xk xs xm xa xc xkk) _ HL.out.sits HC.out).mono ?_
 rintro e u3 ⟨rfl, hb3⟩
 rw [HS.out]
 have HL3 := mkHid (HL.out.next hb3)
 clear hb3 HL HS c0 c1 c2 c3 f0 f1 f2 f3
 obtain ⟨c0, c1, c2, c3, f0, f1, f2, f3⟩ := four_of (v0 := .int .i64 xk) (v1 := .string xs) (v2 := .int .i64 xm) (v3 := .slice xa xkk.length xc) HL3.out.box
 rcases HTC.out with ⟨rfl, hE, hF⟩ | ⟨hne, hSe, hz, hcd⟩
 ·clear HTC
  go_wp2_with fail
  refine (sExpr_A (.node xk xs xm xa xc xkk) _ HL3.out.sits HC.out).mono ?_
  rintro e u4 ⟨rfl, hb4⟩
  rw [hE]
  have HL4 := mkHid (HL3.out.next hb4)
  clear hb4 HL3 c0 c1 c2 c3 f0 f1 f2 f3 hE
  obtain ⟨c0, c1, c2, c3, f0, f1, f2, f3⟩ := four_of (v0 := .int .i64 xk) (v1 := .string xs) (v2 := .int .i64 xm) (v3 := .slice xa xkk.length xc) HL4.out.box
  go_wp2_with fail
  refine (sCond_A (.node xk xs xm xa xc xkk) _ HL4.out.sits HC.out).mono ?_
  rintro e u5 ⟨rfl, hb5⟩
  rw [hF]
  have HL5 := mkHid (HL4.out.next hb5)
  clear hb5 HL4 c0 c1 c2 c3 f0 f1 f2 f3 hF
  go_wp2
  go_ret
  exact ⟨rfl, HL5.out.bel⟩
 ·have hb0 : ¬ 9223372036854775807 < 4 + S.size := by rw [hSe]; omega
  have hSz : S.size ≤ 4000 := by rw [hSe]; exact hz
  have HSE := mkHid hSe
  have HCD := mkHid hcd
  clear hSe hcd hz HTC
  have hem : S.toList.isEmpty = false := by
   cases h : S.toList.isEmpty with
   | false => rfl
   | true =>
    have h2 : S.data.toList = [] := by rw [← Lib.toList_data]; simpa using h
    exact absurd (ByteArray.ext (Array.toList_inj.1 (by simpa using h2))) hne
  clear hne
  go_wp2_with fail
  refine (sCond_A (.node xk xs xm xa xc xkk) _ HL3.out.sits HC.out).mono ?_
  rintro e u4 ⟨rfl, hb4⟩
  have HL4 := mkHid (HL3.out.next hb4)
  clear hb4 HL3 c0 c1 c2 c3 f0 f1 f2 f3
  rcases HCD.out with ⟨hF, hG⟩ | ⟨hF, hG⟩
  ·have hbk := back_chec hG
   have hbs : ¬ 9223372036854775807 < 6 + S.size := by omega
   have hbt : ¬ 9223372036854775807 < 6 + S.size + 1 := by omega
   rw [hF]
   clear HCD hF
   go_wp2_with fail
   obtain ⟨T, hT⟩ : ∃ T, ByteArray.mk #[99, 104, 101, 99, 107, 32] ++ S ++ ByteArray.mk #[59] = T := ⟨_, rfl⟩
   have HP : Hid (((parseI T).2.1 = 1 ∨ (parseI T).2.1 = 3 ∨ (parseI T).2.1 = 5) ∨ ((parseI T).2.1 = 0 ∧ ∃ k s, (parseI T).1 = progN (.node k s 0 [(A.node xk xs xm xa xc xkk).erase]))) := mkHid (by rw [← hT, HSE.out]; exact hbk.imp id (fun h => ⟨h.1, _, _, h.2⟩))
   have HZ : Hid (T.size ≤ maxLen) := mkHid (by rw [← hT, ByteArray.size_append, ByteArray.size_append]; unfold maxLen; show 6 + S.size + 1 ≤ _; omega)
   rw [hT]
   clear hT hbk HSE hG hem hb0 hSz
   refine (sParse_any T _ HZ.out).mono ?_
   rintro e v ⟨y, rfl, hye, hys, _, hbv⟩
   have HLv := mkHid (HL4.out.next hbv)
   clear hbv hye hys HL4
   obtain ⟨yk, ys, ym, ya, yc, ykk⟩ := y
   simp only [A.val]
   obtain ⟨cd, hcd⟩ : ∃ z, (parseI T).2.1 = z := ⟨_, rfl⟩
   obtain ⟨at_, hat⟩ : ∃ z, (parseI T).2.2 = z := ⟨_, rfl⟩
   have HIP := mkHid (fun w => iParse_any T w HZ.out)
   unfold Parsed at HIP
   rw [hcd, hat] at HIP ⊢
   rw [hcd] at HP
   clear hcd hat HZ
   have HL5 := mkHid (HLv.out.next (below_two v (.cells #[.int .i64 yk, .string ys, .int .i64 ym, .slice ya ykk.length yc] 26) (.cells #[.int .i64 cd, .int .i64 at_] 31)))
   have HQ7 := mkHid (heap_alloc_new (v.alloc (.cells #[.int .i64 yk, .string ys, .int .i64 ym, .slice ya ykk.length yc] 26)) (.cells #[.int .i64 cd, .int .i64 at_] 31))
   go_wp2_with fail
   refine (HIP.out _).mono ?_
   rintro e v2 ⟨z, rfl, hze, hzs, _, hb2⟩
   have hzv : (v.alloc (.cells #[.int .i64 yk, .string ys, .int .i64 ym, .slice ya ykk.length yc] 26)).heap.size = v.heap.size + 1 := by simp
   rw [hzv] at HQ7
   have K7 := (hb2.block (v.heap.size + 1) (heap_lt' HQ7.out)).trans HQ7.out
   have HL6 := mkHid (HL5.out.next hb2)
   obtain ⟨R7, hR7⟩ : ∃ R, v.heap.size + 1 = R := ⟨_, rfl⟩
   rw [hR7] at K7 ⊢
   clear hR7 HQ7 HL5 hb2 HIP hzv
   obtain ⟨zk, zs, zm, za, zc, zkk⟩ := z
   simp only [A.val]
   have hbz := below_two v2 (.cells #[.int .i64 zk, .string zs, .int .i64 zm, .slice za zkk.length zc] 26) (.cells #[.int .i64 cd, .int .i64 at_] 31)
   have HL7 := mkHid (HL6.out.next hbz)
   have hzs3 := hzs.up hbz
   have K73 := (hbz.block R7 (heap_lt' K7)).trans K7
   have K83 := (Lib.alloc_old (v2.alloc (.cells #[.int .i64 zk, .string zs, .int .i64 zm, .slice za zkk.length zc] 26)) (.cells #[.int .i64 cd, .int .i64 at_] 31) v2.heap.size (by simp)).trans (heap_alloc_new v2 _)
   have K93 := heap_alloc_new (v2.alloc (.cells #[.int .i64 zk, .string zs, .int .i64 zm, .slice za zkk.length zc] 26)) (.cells #[.int .i64 cd, .int .i64 at_] 31)
   rw [show (v2.alloc (.cells #[.int .i64 zk, .string zs, .int .i64 zm, .slice za zkk.length zc] 26)).heap.size = v2.heap.size + 1 by simp] at K93
   obtain ⟨t0, t1, t2, t3⟩ := two_of K73
   obtain ⟨n0, n1, n2, n3⟩ := two_of K93
   have HK8 := mkHid K83
   clear K7 K83 HL6 hzs hbz HLv
   rcases HP.out with hc | ⟨rfl, k, s, hpe⟩
   ·clear HP hze hzs3 K73 K93
    rcases hc with rfl | rfl | rfl
    all_goals
     go_wp2
     go_ret
     exact ⟨rfl, HL7.out.bel⟩
   ·clear HP
    obtain ⟨b1, b2, b3, p1, p2, p3, gk, gm, gs, ga, gc, gkk, hzz, q1, q2, m0, m1, m2, m3, hgs, hge⟩ := unwrap hzs3 (hze.trans hpe)
    clear hze hzs3 hpe
    simp only [A.node.injEq] at hzz
    obtain ⟨rfl, rfl, rfl, rfl, rfl, rfl⟩ := hzz
    simp only [List.length_cons, List.length_nil, Nat.zero_add] at q1 q2 m0 m1 m2 m3 hgs t0 t1 t2 t3 n0 n1 n2 n3 HK8 HL7 K73 K93 ⊢
    go_wp2
    clear t0 t1 t2 t3 n0 n1 n2 n3 K73 K93
    obtain ⟨v3, hv3⟩ : ∃ u, (v2.alloc (.cells #[.int .i64 40, .string nil_, .int .i64 0, .slice (some ⟨b1, 0, none⟩) 1 zc] 26)).alloc (.cells #[.int .i64 0, .int .i64 at_] 31) = u := ⟨_, rfl⟩
    rw [hv3] at HK8 HL7 q1 q2 m0 m1 m2 m3 hgs ⊢
    obtain ⟨R8, hR8⟩ : ∃ R, v2.heap.size = R := ⟨_, rfl⟩
    rw [hR8] at HK8 ⊢
    clear hv3 hR8
    obtain ⟨r0, r1, r2, r3, _, _, _, _⟩ := four_of HK8.out
    obtain ⟨c0, c1, c2, c3, _, _, _, _⟩ := four_of (v0 := .int .i64 xk) (v1 := .string xs) (v2 := .int .i64 xm) (v3 := .slice xa xkk.length xc) HL7.out.box
    have HGS := mkHid hgs
    have HGE := mkHid hge
    clear hgs hge
    have hl8 : R8 < v3.heap.size := World.block_lt_of_cell? v3 _ r3
    have hl1 : b1 < v3.heap.size := World.block_lt_of_cell? v3 _ q1
    have hl2 : b2 < v3.heap.size := World.block_lt_of_cell? v3 _ q2
    have hl3 : b3 < v3.heap.size := World.block_lt_of_cell? v3 _ m0
    have hlQ : Q < v3.heap.size := World.block_lt_of_cell? v3 _ c0
    go_region_held3 (fun w' => w'.cell? ⟨R8, 3, none⟩ = some (.slice (some ⟨b1, 0, none⟩) 1 zc) ∧ w'.cell? ⟨b1, 3, none⟩ = some (.slice (some ⟨b2, 0, none⟩) 1 p2) ∧ w'.cell? ⟨b2, 3, none⟩ = some (.slice (some ⟨b3, 0, none⟩) 1 p3) ∧ w'.cell? ⟨b3, 0, none⟩ = some (.int .i64 gk) ∧ w'.cell? ⟨b3, 1, none⟩ = some (.string gs) ∧ w'.cell? ⟨b3, 2, none⟩ = some (.int .i64 gm) ∧ w'.cell? ⟨b3, 3, none⟩ = some (.slice ga gkk.length gc) ∧ w'.cell? ⟨Q, 0, none⟩ = some (.int .i64 xk) ∧ w'.cell? ⟨Q, 1, none⟩ = some (.string xs) ∧ w'.cell? ⟨Q, 2, none⟩ = some (.int .i64 xm) ∧ w'.cell? ⟨Q, 3, none⟩ = some (.slice xa xkk.length xc)) (first | exact ⟨r3, q1, q2, m0, m1, m2, m3, c0, c1, c2, c3⟩ | exact ⟨(hc _ _ hl8).trans r3, (hc _ _ hl1).trans q1, (hc _ _ hl2).trans q2, (hc _ _ hl3).trans m0, (hc _ _ hl3).trans m1, (hc _ _ hl3).trans m2, (hc _ _ hl3).trans m3, (hc _ _ hlQ).trans c0, (hc _ _ hlQ).trans c1, (hc _ _ hlQ).trans c2, (hc _ _ hlQ).trans c3⟩)
     (first | (go_at_call 12; refine (same_A (.node gk gs gm ga gc gkk) (.node xk xs xm xa xc xkk) _ (Sits.up HGS.out (Below.refl _ _).drew) (Sits.up HL7.out.sits (Below.refl _ _).drew) HGE.out).mono ?_; rintro e v4 ⟨rfl, hb4⟩; obtain ⟨hc, hf⟩ := bcell hb4))
    have HB4 := mkHid (HL7.out.bel.drew.trans (hb4.mono HL7.out.bel.drew.size))
    clear hb4 hc hf
    go_wp2
    go_ret
    exact ⟨rfl, HB4.out⟩
  ·have hbk := back_set hG
   have hbs : ¬ 9223372036854775807 < 4 + S.size := by omega
   have hbt : ¬ 9223372036854775807 < 4 + S.size + 1 := by omega
   rw [hF]
   clear HCD hF
   go_wp2_with fail
   obtain ⟨T, hT⟩ : ∃ T, ByteArray.mk #[105, 32, 61, 32] ++ S ++ ByteArray.mk #[59] = T := ⟨_, rfl⟩
   have HP : Hid (((parseI T).2.1 = 1 ∨ (parseI T).2.1 = 3 ∨ (parseI T).2.1 = 5) ∨ ((parseI T).2.1 = 0 ∧ ∃ k s, (parseI T).1 = progN (.node k s 0 [(A.node xk xs xm xa xc xkk).erase]))) := mkHid (by rw [← hT, HSE.out]; exact hbk.imp id (fun h => ⟨h.1, _, _, h.2⟩))
   have HZ : Hid (T.size ≤ maxLen) := mkHid (by rw [← hT, ByteArray.size_append, ByteArray.size_append]; unfold maxLen; show 4 + S.size + 1 ≤ _; omega)
   rw [hT]
   clear hT hbk HSE hG hem hb0 hSz
   refine (sParse_any T _ HZ.out).mono ?_
   rintro e v ⟨y, rfl, hye, hys, _, hbv⟩
   have HLv := mkHid (HL4.out.next hbv)
   clear hbv hye hys HL4
   obtain ⟨yk, ys, ym, ya, yc, ykk⟩ := y
   simp only [A.val]
   obtain ⟨cd, hcd⟩ : ∃ z, (parseI T).2.1 = z := ⟨_, rfl⟩
   obtain ⟨at_, hat⟩ : ∃ z, (parseI T).2.2 = z := ⟨_, rfl⟩
   have HIP := mkHid (fun w => iParse_any T w HZ.out)
   unfold Parsed at HIP
   rw [hcd, hat] at HIP ⊢
   rw [hcd] at HP
   clear hcd hat HZ
   have HL5 := mkHid (HLv.out.next (below_two v (.cells #[.int .i64 yk, .string ys, .int .i64 ym, .slice ya ykk.length yc] 26) (.cells #[.int .i64 cd, .int .i64 at_] 31)))
   have HQ7 := mkHid (heap_alloc_new (v.alloc (.cells #[.int .i64 yk, .string ys, .int .i64 ym, .slice ya ykk.length yc] 26)) (.cells #[.int .i64 cd, .int .i64 at_] 31))
   go_wp2_with fail
   refine (HIP.out _).mono ?_
   rintro e v2 ⟨z, rfl, hze, hzs, _, hb2⟩
   have hzv : (v.alloc (.cells #[.int .i64 yk, .string ys, .int .i64 ym, .slice ya ykk.length yc] 26)).heap.size = v.heap.size + 1 := by simp
   rw [hzv] at HQ7
   have K7 := (hb2.block (v.heap.size + 1) (heap_lt' HQ7.out)).trans HQ7.out
   have HL6 := mkHid (HL5.out.next hb2)
   obtain ⟨R7, hR7⟩ : ∃ R, v.heap.size + 1 = R := ⟨_, rfl⟩
   rw [hR7] at K7 ⊢
   clear hR7 HQ7 HL5 hb2 HIP hzv
   obtain ⟨zk, zs, zm, za, zc, zkk⟩ := z
   simp only [A.val]
   have hbz := below_two v2 (.cells #[.int .i64 zk, .string zs, .int .i64 zm, .slice za zkk.length zc] 26) (.cells #[.int .i64 cd, .int .i64 at_] 31)
   have HL7 := mkHid (HL6.out.next hbz)
   have hzs3 := hzs.up hbz
   have K73 := (hbz.block R7 (heap_lt' K7)).trans K7
   have K83 := (Lib.alloc_old (v2.alloc (.cells #[.int .i64 zk, .string zs, .int .i64 zm, .slice za zkk.length zc] 26)) (.cells #[.int .i64 cd, .int .i64 at_] 31) v2.heap.size (by simp)).trans (heap_alloc_new v2 _)
   have K93 := heap_alloc_new (v2.alloc (.cells #[.int .i64 zk, .string zs, .int .i64 zm, .slice za zkk.length zc] 26)) (.cells #[.int .i64 cd, .int .i64 at_] 31)
   rw [show (v2.alloc (.cells #[.int .i64 zk, .string zs, .int .i64 zm, .slice za zkk.length zc] 26)).heap.size = v2.heap.size + 1 by simp] at K93
   obtain ⟨t0, t1, t2, t3⟩ := two_of K73
   obtain ⟨n0, n1, n2, n3⟩ := two_of K93
   have HK8 := mkHid K83
   clear K7 K83 HL6 hzs hbz HLv
   rcases HP.out with hc | ⟨rfl, k, s, hpe⟩
   ·clear HP hze hzs3 K73 K93
    rcases hc with rfl | rfl | rfl
    all_goals
     go_wp2
     go_ret
     exact ⟨rfl, HL7.out.bel⟩
   ·clear HP
    obtain ⟨b1, b2, b3, p1, p2, p3, gk, gm, gs, ga, gc, gkk, hzz, q1, q2, m0, m1, m2, m3, hgs, hge⟩ := unwrap hzs3 (hze.trans hpe)
    clear hze hzs3 hpe
    simp only [A.node.injEq] at hzz
    obtain ⟨rfl, rfl, rfl, rfl, rfl, rfl⟩ := hzz
    simp only [List.length_cons, List.length_nil, Nat.zero_add] at q1 q2 m0 m1 m2 m3 hgs t0 t1 t2 t3 n0 n1 n2 n3 HK8 HL7 K73 K93 ⊢
    go_wp2
    clear t0 t1 t2 t3 n0 n1 n2 n3 K73 K93
    obtain ⟨v3, hv3⟩ : ∃ u, (v2.alloc (.cells #[.int .i64 40, .string nil_, .int .i64 0, .slice (some ⟨b1, 0, none⟩) 1 zc] 26)).alloc (.cells #[.int .i64 0, .int .i64 at_] 31) = u := ⟨_, rfl⟩
    rw [hv3] at HK8 HL7 q1 q2 m0 m1 m2 m3 hgs ⊢
    obtain ⟨R8, hR8⟩ : ∃ R, v2.heap.size = R := ⟨_, rfl⟩
    rw [hR8] at HK8 ⊢
    clear hv3 hR8
    obtain ⟨r0, r1, r2, r3, _, _, _, _⟩ := four_of HK8.out
    obtain ⟨c0, c1, c2, c3, _, _, _, _⟩ := four_of (v0 := .int .i64 xk) (v1 := .string xs) (v2 := .int .i64 xm) (v3 := .slice xa xkk.length xc) HL7.out.box
    have HGS := mkHid hgs
    have HGE := mkHid hge
    clear hgs hge
    have hl8 : R8 < v3.heap.size := World.block_lt_of_cell? v3 _ r3
    have hl1 : b1 < v3.heap.size := World.block_lt_of_cell? v3 _ q1
    have hl2 : b2 < v3.heap.size := World.block_lt_of_cell? v3 _ q2
    have hl3 : b3 < v3.heap.size := World.block_lt_of_cell? v3 _ m0
    have hlQ : Q < v3.heap.size := World.block_lt_of_cell? v3 _ c0
    go_region_held3 (fun w' => w'.cell? ⟨R8, 3, none⟩ = some (.slice (some ⟨b1, 0, none⟩) 1 zc) ∧ w'.cell? ⟨b1, 3, none⟩ = some (.slice (some ⟨b2, 0, none⟩) 1 p2) ∧ w'.cell? ⟨b2, 3, none⟩ = some (.slice (some ⟨b3, 0, none⟩) 1 p3) ∧ w'.cell? ⟨b3, 0, none⟩ = some (.int .i64 gk) ∧ w'.cell? ⟨b3, 1, none⟩ = some (.string gs) ∧ w'.cell? ⟨b3, 2, none⟩ = some (.int .i64 gm) ∧ w'.cell? ⟨b3, 3, none⟩ = some (.slice ga gkk.length gc) ∧ w'.cell? ⟨Q, 0, none⟩ = some (.int .i64 xk) ∧ w'.cell? ⟨Q, 1, none⟩ = some (.string xs) ∧ w'.cell? ⟨Q, 2, none⟩ = some (.int .i64 xm) ∧ w'.cell? ⟨Q, 3, none⟩ = some (.slice xa xkk.length xc)) (first | exact ⟨r3, q1, q2, m0, m1, m2, m3, c0, c1, c2, c3⟩ | exact ⟨(hc _ _ hl8).trans r3, (hc _ _ hl1).trans q1, (hc _ _ hl2).trans q2, (hc _ _ hl3).trans m0, (hc _ _ hl3).trans m1, (hc _ _ hl3).trans m2, (hc _ _ hl3).trans m3, (hc _ _ hlQ).trans c0, (hc _ _ hlQ).trans c1, (hc _ _ hlQ).trans c2, (hc _ _ hlQ).trans c3⟩)
     (first | (go_at_call 12; refine (same_A (.node gk gs gm ga gc gkk) (.node xk xs xm xa xc xkk) _ (Sits.up HGS.out (Below.refl _ _).drew) (Sits.up HL7.out.sits (Below.refl _ _).drew) HGE.out).mono ?_; rintro e v4 ⟨rfl, hb4⟩; obtain ⟨hc, hf⟩ := bcell hb4))
    have HB4 := mkHid (HL7.out.bel.drew.trans (hb4.mono HL7.out.bel.drew.size))
    clear hb4 hc hf
    go_wp2
    go_ret
    exact ⟨rfl, HB4.out⟩

end Go.Proofs.YtjmjmdmnejnlbaaGreatDoor
