/-
  CONTRACT of l02Spoil: a copy, spoilt in one place: a tree of its own, at most 26 nodes more.
-/
import Derived.Test.YtjmjmdmnejnlbaaGreatDoorMDz
namespace Go.Proofs.YtjmjmdmnejnlbaaGreatDoor
open Go.RowKit
open Pl
def SpoilOk (N : Nat) : Prop := ∀ (x : A) (cb n cap bud : Nat) (a : Option Addr) (w : World), cnt x.erase ≤ N → Sits w x → Cur w cb a n cap (bud + (2 * N + 3)) →
 Calls Tryz.prog 18 #[.pointer (some ⟨cb, 0, none⟩), x.val] w (DPost cb n cap bud (cnt x.erase + 26) a w)
set_option maxRecDepth 100000 in
set_option maxHeartbeats 32000000 in
theorem spoil_step (N : Nat) (hN : N + 1 ≤ 900) (IH : SpoilOk N) : SpoilOk (N + 1) := by
 intro x cb n cap bud a w hx hS hC
 have HIH := mkHid IH
 clear IH
 obtain ⟨xk, xs, xm, xa, xc, xkk⟩ := x
 simp only [A.val]
 have h00 := heap_alloc_new w (.cells #[.int .i64 xk, .string xs, .int .i64 xm, .slice xa xkk.length xc] 26)
 have hb0 := below_one w (.cells #[.int .i64 xk, .string xs, .int .i64 xm, .slice xa xkk.length xc] 26)
 have hC0 := hC.below hb0
 have hz0 : (w.alloc (.cells #[.int .i64 xk, .string xs, .int .i64 xm, .slice xa xkk.length xc] 26)).heap.size = w.heap.size + 1 := by simp
 obtain ⟨w0, hw0⟩ : ∃ q, w.alloc (.cells #[.int .i64 xk, .string xs, .int .i64 xm, .slice xa xkk.length xc] 26) = q := ⟨_, rfl⟩
 rw [hw0] at h00 hb0 hC0 hz0
 have HA := mkHid (Dat.start hC0)
 have hb1 := below_step hb0 (below_one w0 (.cells #[.int .i64 0, .string ⟨#[]⟩, .int .i64 0, .slice none 0 0] 26))
 have hx1 := (Lib.alloc_old w0 (.cells #[.int .i64 0, .string ⟨#[]⟩, .int .i64 0, .slice none 0 0] 26) w.heap.size (by omega)).trans h00
 obtain ⟨w1, hw1⟩ : ∃ q, w0.alloc (.cells #[.int .i64 0, .string ⟨#[]⟩, .int .i64 0, .slice none 0 0] 26) = q := ⟨_, rfl⟩
 rw [hw1] at HA hb1 hx1
 have HS0 := mkHid (Sits.stay _ (fun b hb => hb1.block b (Sits.lt _ hS b hb)) hS)
 have HB0 := mkHid hb0
 obtain ⟨P, hP⟩ : ∃ q, w0.heap.size = q := ⟨_, rfl⟩
 rw [hP] at HA
 have hP2 : w.heap.size + 1 = P := by omega
 have HX := mkHid hx1
 obtain ⟨i0, hi0, hz1⟩ := Option.map_eq_some_iff.1 Tryz.info26
 simp only [Prod.mk.injEq] at hz1
 obtain ⟨hz1, hz2, hz3⟩ := hz1
 have HI := mkHid (show Tryz.prog.info? 26 = some i0 ∧ i0.zero = some (.agg #[.int .i64 0, .string ByteArray.empty, .int .i64 0, .slice none 0 0]) ∧ i0.size = 4 ∧ i0.bytes = 56 from ⟨hi0, hz1, hz2, hz3⟩)
 have HCX := mkHid hx
 clear hi0 hz1 hz2 hz3 hC hC0 hb0 hb1 h00 hx1 hx hS
 obtain ⟨c0, c1, c2, c3, f0, f1, f2, f3⟩ := four_of HX.out
 go_enter Tryz.func18, Tryz.ntmps18
 go_wp2_with fail
 refine (copy_A (.node xk xs xm xa xc xkk) _ HS0.out (by have := HCX.out; omega)).mono ?_
 rintro e w2 ⟨y, rfl, hye, hym, hb2⟩
 have HD := mkHid (HA.out.below hb2)
 have HYE := mkHid (congrArg cnt hye)
 have HS1 := mkHid (Spo.start HD.out (hym.mono HA.out.lt))
 have hPB := HA.out.lt
 clear hye hym hb2 HA HX HS0 c0 c1 c2 c3 f0 f1 f2 f3 hw0 hw1 hP2 hz0 hP
 obtain ⟨yk, ys, ym, ya, yc, ykk⟩ := y
 simp only [A.val]
 have HS1 : Hid (Spo w0 (w2.alloc (.cells #[.int .i64 yk, .string ys, .int .i64 ym, .slice ya ykk.length yc] 26)) cb n cap (bud + (2 * (N + 1) + 3)) P w2.heap.size a (.node yk ys ym ya yc ykk)) := HS1
 have HL : Hid (ykk.length + 1 ≤ 900) := mkHid (by have h1 := HYE.out; have h2 := HCX.out; have h3 := len_cnts (erases ykk); rw [erases_len] at h3; simp only [A.erase, cnt] at h1 h2; omega)
 obtain ⟨c0, c1, c2, c3, f0, f1, f2, f3⟩ := four_of HS1.out.box
 by_cases h0 : ykk.length = 0
 ·obtain rfl : ykk = [] := List.eq_nil_of_length_eq_zero h0
  have HS1 : Hid (Spo w0 (w2.alloc (.cells #[.int .i64 yk, .string ys, .int .i64 ym, .slice ya 0 yc] 26)) cb n cap (bud + (2 * (N + 1) + 3)) P w2.heap.size a (.node yk ys ym ya yc [])) := HS1
  simp only [List.length_nil] at c3 ⊢
  clear h0
  go_wp2_with fail
  refine (pick_any 6 cb n cap (bud + 1) a _ (by omega) (HS1.out.less (by omega)).dat.cur).mono ?_
  rintro e u ⟨r, rfl, r0, r1, hCn, hGn⟩
  have HT := mkHid (HS1.out.next hCn hGn)
  clear hCn hGn HS1 c0 c1 c2 c3 f0 f1 f2 f3
  have rr : 0 ≤ r ∧ r < 6 := by omega
  clear r0 r1
  obtain ⟨Q, hQ⟩ : ∃ q, w2.heap.size = q := ⟨_, rfl⟩
  rw [hQ] at HT ⊢
  clear hQ
  obtain ⟨c0, c1, c2, c3, f0, f1, f2, f3⟩ := four_of HT.out.box
  rcases (by omega : r = 0 ∨ r = 1 ∨ r = 2 ∨ r = 3 ∨ r = 4 ∨ r = 5) with rfl | rfl | rfl | rfl | rfl | rfl
  ·go_wp2_with fail
   refine (pick_any 42 cb n cap bud a _ (by omega) HT.out.dat.cur).mono ?_
   rintro e u2 ⟨q, rfl, q0, q1, hCn, hGn⟩
   have HU := mkHid (HT.out.next hCn hGn)
   clear hCn hGn HT c0 c1 c2 c3 f0 f1 f2 f3 q0 q1
   obtain ⟨c0, c1, c2, c3, f0, f1, f2, f3⟩ := four_of HU.out.box
   have HV := mkHid (HU.out.put 0 (.int .i64 q) (z := .node q ys ym ya yc []) rfl HU.out.mine HU.out.sep)
   obtain ⟨r0, r1, r2, r3, s0, s1, s2, s3⟩ := four_of (v0 := .int .i64 q) (v1 := .string ys) (v2 := .int .i64 ym) (v3 := .slice ya 0 yc) HV.out.box
   obtain ⟨d0, d1, d2, d3, e0, e1, e2, e3⟩ := four_of HV.out.dat.res
   go_wp2
   obtain ⟨q0, q1, q2, q3⟩ := put4_cells0 HV.out.dat.res (.int .i64 q) (.string ys) (.int .i64 ym) (.slice ya 0 yc)
   exact bodyPost_ret (v := (A.node q ys ym ya yc []).val) (by simp [results, Tryz.results18, go_sem, q0, q1, q2, q3, A.val]) rfl (DPost.base HB0.out ((HV.out.dat.less (by omega)).fin HV.out.mine (by have h1 := HYE.out; simp only [A.erase, cnt] at h1 ⊢; omega) _ _ _ _))
  ·go_wp2_with fail
   refine (pick_any 6 cb n cap bud a _ (by omega) (HT.out.dat.cur.alloc _)).mono ?_
   rintro e u2 ⟨q, rfl, q0, q1, hCn, hGn⟩
   have hne : u.heap.size ≠ cb := by have := HT.out.dat.cur.lt; omega
   have HKK := mkHid (fun i => grown_cell (b := u.heap.size) (i := i) hGn (by simp) hne)
   have HU := mkHid ((HT.out.below (below_one u _)).next hCn hGn)
   clear hCn hGn HT c0 c1 c2 c3 f0 f1 f2 f3
   obtain ⟨m, rfl⟩ : ∃ m : Nat, q = m := ⟨q.toNat, by omega⟩
   have t0 := HKK.out m
   have hm : m < 6 := by omega
   clear q1 HKK
   obtain ⟨c0, c1, c2, c3, f0, f1, f2, f3⟩ := four_of HU.out.box
   rcases (by omega : m = 0 ∨ m = 1 ∨ m = 2 ∨ m = 3 ∨ m = 4 ∨ m = 5) with rfl | rfl | rfl | rfl | rfl | rfl
   ·simp [go_sem] at t0
    have HV := mkHid (HU.out.put 1 (.string ⟨#[]⟩) (z := .node yk ⟨#[]⟩ ym ya yc []) rfl ⟨HU.out.mine.1, by decide, HU.out.mine.2.2⟩ HU.out.sep)
    obtain ⟨r0, r1, r2, r3, s0, s1, s2, s3⟩ := four_of (v0 := .int .i64 yk) (v1 := .string ⟨#[]⟩) (v2 := .int .i64 ym) (v3 := .slice ya 0 yc) HV.out.box
    obtain ⟨d0, d1, d2, d3, e0, e1, e2, e3⟩ := four_of HV.out.dat.res
    go_wp2
    obtain ⟨q0, q1, q2, q3⟩ := put4_cells0 HV.out.dat.res (.int .i64 yk) (.string ⟨#[]⟩) (.int .i64 ym) (.slice ya 0 yc)
    exact bodyPost_ret (v := (A.node yk ⟨#[]⟩ ym ya yc []).val) (by simp [results, Tryz.results18, go_sem, q0, q1, q2, q3, A.val]) rfl (DPost.base HB0.out ((HV.out.dat.less (by omega)).fin HV.out.mine (by have h1 := HYE.out; simp only [A.erase, cnt] at h1 ⊢; omega) _ _ _ _))
   ·simp [go_sem] at t0
    have HV := mkHid (HU.out.put 1 (.string ⟨#[105, 102]⟩) (z := .node yk ⟨#[105, 102]⟩ ym ya yc []) rfl ⟨HU.out.mine.1, by decide, HU.out.mine.2.2⟩ HU.out.sep)
    obtain ⟨r0, r1, r2, r3, s0, s1, s2, s3⟩ := four_of (v0 := .int .i64 yk) (v1 := .string ⟨#[105, 102]⟩) (v2 := .int .i64 ym) (v3 := .slice ya 0 yc) HV.out.box
    obtain ⟨d0, d1, d2, d3, e0, e1, e2, e3⟩ := four_of HV.out.dat.res
    go_wp2
    obtain ⟨q0, q1, q2, q3⟩ := put4_cells0 HV.out.dat.res (.int .i64 yk) (.string ⟨#[105, 102]⟩) (.int .i64 ym) (.slice ya 0 yc)
    exact bodyPost_ret (v := (A.node yk ⟨#[105, 102]⟩ ym ya yc []).val) (by simp [results, Tryz.results18, go_sem, q0, q1, q2, q3, A.val]) rfl (DPost.base HB0.out ((HV.out.dat.less (by omega)).fin HV.out.mine (by have h1 := HYE.out; simp only [A.erase, cnt] at h1 ⊢; omega) _ _ _ _))
   ·simp [go_sem] at t0
    have HV := mkHid (HU.out.put 1 (.string ⟨#[97]⟩) (z := .node yk ⟨#[97]⟩ ym ya yc []) rfl ⟨HU.out.mine.1, by decide, HU.out.mine.2.2⟩ HU.out.sep)
    obtain ⟨r0, r1, r2, r3, s0, s1, s2, s3⟩ := four_of (v0 := .int .i64 yk) (v1 := .string ⟨#[97]⟩) (v2 := .int .i64 ym) (v3 := .slice ya 0 yc) HV.out.box
    obtain ⟨d0, d1, d2, d3, e0, e1, e2, e3⟩ := four_of HV.out.dat.res
    go_wp2
    obtain ⟨q0, q1, q2, q3⟩ := put4_cells0 HV.out.dat.res (.int .i64 yk) (.string ⟨#[97]⟩) (.int .i64 ym) (.slice ya 0 yc)
    exact bodyPost_ret (v := (A.node yk ⟨#[97]⟩ ym ya yc []).val) (by simp [results, Tryz.results18, go_sem, q0, q1, q2, q3, A.val]) rfl (DPost.base HB0.out ((HV.out.dat.less (by omega)).fin HV.out.mine (by have h1 := HYE.out; simp only [A.erase, cnt] at h1 ⊢; omega) _ _ _ _))
   ·simp [go_sem] at t0
    have HV := mkHid (HU.out.put 1 (.string ⟨#[65]⟩) (z := .node yk ⟨#[65]⟩ ym ya yc []) rfl ⟨HU.out.mine.1, by decide, HU.out.mine.2.2⟩ HU.out.sep)
    obtain ⟨r0, r1, r2, r3, s0, s1, s2, s3⟩ := four_of (v0 := .int .i64 yk) (v1 := .string ⟨#[65]⟩) (v2 := .int .i64 ym) (v3 := .slice ya 0 yc) HV.out.box
    obtain ⟨d0, d1, d2, d3, e0, e1, e2, e3⟩ := four_of HV.out.dat.res
    go_wp2
    obtain ⟨q0, q1, q2, q3⟩ := put4_cells0 HV.out.dat.res (.int .i64 yk) (.string ⟨#[65]⟩) (.int .i64 ym) (.slice ya 0 yc)
    exact bodyPost_ret (v := (A.node yk ⟨#[65]⟩ ym ya yc []).val) (by simp [results, Tryz.results18, go_sem, q0, q1, q2, q3, A.val]) rfl (DPost.base HB0.out ((HV.out.dat.less (by omega)).fin HV.out.mine (by have h1 := HYE.out; simp only [A.erase, cnt] at h1 ⊢; omega) _ _ _ _))
   ·simp [go_sem] at t0
    have HV := mkHid (HU.out.put 1 (.string ⟨#[97, 98, 99, 100, 101, 102, 103, 104, 105]⟩) (z := .node yk ⟨#[97, 98, 99, 100, 101, 102, 103, 104, 105]⟩ ym ya yc []) rfl ⟨HU.out.mine.1, by decide, HU.out.mine.2.2⟩ HU.out.sep)
    obtain ⟨r0, r1, r2, r3, s0, s1, s2, s3⟩ := four_of (v0 := .int .i64 yk) (v1 := .string ⟨#[97, 98, 99, 100, 101, 102, 103, 104, 105]⟩) (v2 := .int .i64 ym) (v3 := .slice ya 0 yc) HV.out.box
    obtain ⟨d0, d1, d2, d3, e0, e1, e2, e3⟩ := four_of HV.out.dat.res
    go_wp2
    obtain ⟨q0, q1, q2, q3⟩ := put4_cells0 HV.out.dat.res (.int .i64 yk) (.string ⟨#[97, 98, 99, 100, 101, 102, 103, 104, 105]⟩) (.int .i64 ym) (.slice ya 0 yc)
    exact bodyPost_ret (v := (A.node yk ⟨#[97, 98, 99, 100, 101, 102, 103, 104, 105]⟩ ym ya yc []).val) (by simp [results, Tryz.results18, go_sem, q0, q1, q2, q3, A.val]) rfl (DPost.base HB0.out ((HV.out.dat.less (by omega)).fin HV.out.mine (by have h1 := HYE.out; simp only [A.erase, cnt] at h1 ⊢; omega) _ _ _ _))
   ·simp [go_sem] at t0
    have HV := mkHid (HU.out.put 1 (.string ⟨#[105]⟩) (z := .node yk ⟨#[105]⟩ ym ya yc []) rfl ⟨HU.out.mine.1, by decide, HU.out.mine.2.2⟩ HU.out.sep)
    obtain ⟨r0, r1, r2, r3, s0, s1, s2, s3⟩ := four_of (v0 := .int .i64 yk) (v1 := .string ⟨#[105]⟩) (v2 := .int .i64 ym) (v3 := .slice ya 0 yc) HV.out.box
    obtain ⟨d0, d1, d2, d3, e0, e1, e2, e3⟩ := four_of HV.out.dat.res
    go_wp2
    obtain ⟨q0, q1, q2, q3⟩ := put4_cells0 HV.out.dat.res (.int .i64 yk) (.string ⟨#[105]⟩) (.int .i64 ym) (.slice ya 0 yc)
    exact bodyPost_ret (v := (A.node yk ⟨#[105]⟩ ym ya yc []).val) (by simp [results, Tryz.results18, go_sem, q0, q1, q2, q3, A.val]) rfl (DPost.base HB0.out ((HV.out.dat.less (by omega)).fin HV.out.mine (by have h1 := HYE.out; simp only [A.erase, cnt] at h1 ⊢; omega) _ _ _ _))
  ·go_wp2_with fail
   refine (pick_any 5 cb n cap bud a _ (by omega) (HT.out.dat.cur.alloc _)).mono ?_
   rintro e u2 ⟨q, rfl, q0, q1, hCn, hGn⟩
   have hne : u.heap.size ≠ cb := by have := HT.out.dat.cur.lt; omega
   have HKK := mkHid (fun i => grown_cell (b := u.heap.size) (i := i) hGn (by simp) hne)
   have HU := mkHid ((HT.out.below (below_one u _)).next hCn hGn)
   clear hCn hGn HT c0 c1 c2 c3 f0 f1 f2 f3
   obtain ⟨m, rfl⟩ : ∃ m : Nat, q = m := ⟨q.toNat, by omega⟩
   have t0 := HKK.out m
   have hm : m < 5 := by omega
   clear q1 HKK
   obtain ⟨c0, c1, c2, c3, f0, f1, f2, f3⟩ := four_of HU.out.box
   rcases (by omega : m = 0 ∨ m = 1 ∨ m = 2 ∨ m = 3 ∨ m = 4) with rfl | rfl | rfl | rfl | rfl
   ·simp [go_sem] at t0
    have HV := mkHid (HU.out.put 2 (.int .i64 1) (z := .node yk ys 1 ya yc []) rfl HU.out.mine HU.out.sep)
    obtain ⟨r0, r1, r2, r3, s0, s1, s2, s3⟩ := four_of (v0 := .int .i64 yk) (v1 := .string ys) (v2 := .int .i64 1) (v3 := .slice ya 0 yc) HV.out.box
    obtain ⟨d0, d1, d2, d3, e0, e1, e2, e3⟩ := four_of HV.out.dat.res
    go_wp2
    obtain ⟨q0, q1, q2, q3⟩ := put4_cells0 HV.out.dat.res (.int .i64 yk) (.string ys) (.int .i64 1) (.slice ya 0 yc)
    exact bodyPost_ret (v := (A.node yk ys 1 ya yc []).val) (by simp [results, Tryz.results18, go_sem, q0, q1, q2, q3, A.val]) rfl (DPost.base HB0.out ((HV.out.dat.less (by omega)).fin HV.out.mine (by have h1 := HYE.out; simp only [A.erase, cnt] at h1 ⊢; omega) _ _ _ _))
   ·simp [go_sem] at t0
    have HV := mkHid (HU.out.put 2 (.int .i64 (-1)) (z := .node yk ys (-1) ya yc []) rfl HU.out.mine HU.out.sep)
    obtain ⟨r0, r1, r2, r3, s0, s1, s2, s3⟩ := four_of (v0 := .int .i64 yk) (v1 := .string ys) (v2 := .int .i64 (-1)) (v3 := .slice ya 0 yc) HV.out.box
    obtain ⟨d0, d1, d2, d3, e0, e1, e2, e3⟩ := four_of HV.out.dat.res
    go_wp2
    obtain ⟨q0, q1, q2, q3⟩ := put4_cells0 HV.out.dat.res (.int .i64 yk) (.string ys) (.int .i64 (-1)) (.slice ya 0 yc)
    exact bodyPost_ret (v := (A.node yk ys (-1) ya yc []).val) (by simp [results, Tryz.results18, go_sem, q0, q1, q2, q3, A.val]) rfl (DPost.base HB0.out ((HV.out.dat.less (by omega)).fin HV.out.mine (by have h1 := HYE.out; simp only [A.erase, cnt] at h1 ⊢; omega) _ _ _ _))
   ·simp [go_sem] at t0
    have HV := mkHid (HU.out.put 2 (.int .i64 (-2)) (z := .node yk ys (-2) ya yc []) rfl HU.out.mine HU.out.sep)
    obtain ⟨r0, r1, r2, r3, s0, s1, s2, s3⟩ := four_of (v0 := .int .i64 yk) (v1 := .string ys) (v2 := .int .i64 (-2)) (v3 := .slice ya 0 yc) HV.out.box
    obtain ⟨d0, d1, d2, d3, e0, e1, e2, e3⟩ := four_of HV.out.dat.res
    go_wp2
    obtain ⟨q0, q1, q2, q3⟩ := put4_cells0 HV.out.dat.res (.int .i64 yk) (.string ys) (.int .i64 (-2)) (.slice ya 0 yc)
    exact bodyPost_ret (v := (A.node yk ys (-2) ya yc []).val) (by simp [results, Tryz.results18, go_sem, q0, q1, q2, q3, A.val]) rfl (DPost.base HB0.out ((HV.out.dat.less (by omega)).fin HV.out.mine (by have h1 := HYE.out; simp only [A.erase, cnt] at h1 ⊢; omega) _ _ _ _))
   ·simp [go_sem] at t0
    have HV := mkHid (HU.out.put 2 (.int .i64 1000000) (z := .node yk ys 1000000 ya yc []) rfl HU.out.mine HU.out.sep)
    obtain ⟨r0, r1, r2, r3, s0, s1, s2, s3⟩ := four_of (v0 := .int .i64 yk) (v1 := .string ys) (v2 := .int .i64 1000000) (v3 := .slice ya 0 yc) HV.out.box
    obtain ⟨d0, d1, d2, d3, e0, e1, e2, e3⟩ := four_of HV.out.dat.res
    go_wp2
    obtain ⟨q0, q1, q2, q3⟩ := put4_cells0 HV.out.dat.res (.int .i64 yk) (.string ys) (.int .i64 1000000) (.slice ya 0 yc)
    exact bodyPost_ret (v := (A.node yk ys 1000000 ya yc []).val) (by simp [results, Tryz.results18, go_sem, q0, q1, q2, q3, A.val]) rfl (DPost.base HB0.out ((HV.out.dat.less (by omega)).fin HV.out.mine (by have h1 := HYE.out; simp only [A.erase, cnt] at h1 ⊢; omega) _ _ _ _))
   ·simp [go_sem] at t0
    have HV := mkHid (HU.out.put 2 (.int .i64 1000001) (z := .node yk ys 1000001 ya yc []) rfl HU.out.mine HU.out.sep)
    obtain ⟨r0, r1, r2, r3, s0, s1, s2, s3⟩ := four_of (v0 := .int .i64 yk) (v1 := .string ys) (v2 := .int .i64 1000001) (v3 := .slice ya 0 yc) HV.out.box
    obtain ⟨d0, d1, d2, d3, e0, e1, e2, e3⟩ := four_of HV.out.dat.res
    go_wp2
    obtain ⟨q0, q1, q2, q3⟩ := put4_cells0 HV.out.dat.res (.int .i64 yk) (.string ys) (.int .i64 1000001) (.slice ya 0 yc)
    exact bodyPost_ret (v := (A.node yk ys 1000001 ya yc []).val) (by simp [results, Tryz.results18, go_sem, q0, q1, q2, q3, A.val]) rfl (DPost.base HB0.out ((HV.out.dat.less (by omega)).fin HV.out.mine (by have h1 := HYE.out; simp only [A.erase, cnt] at h1 ⊢; omega) _ _ _ _))
  ·go_wp2
   go_region_law (first | (go_simp; go_at_call 38; refine (pick_any 3 cb n cap bud a _ (by omega) HT.out.drew.dat.cur).mono ?_; rintro e u2 ⟨q, rfl, q0, q1, hCn, hGn⟩; have HU := mkHid (HT.out.drew.next hCn hGn); clear hCn hGn; obtain ⟨c0, c1, c2, c3, f0, f1, f2, f3⟩ := four_of HU.out.box) | (go_simp; go_at_call 37; refine (sNum_any q _ q0).mono ?_; rintro e u3 ⟨rfl, hb3⟩; have HW := mkHid (HU.out.below hb3); clear hb3; simp only [A.val]; have OW := mkHid (HW.out.mine.1.own.alloc (.cells #[.int .i64 1, .string ⟨#[]⟩, .int .i64 q, .slice none 0 0] 26)); obtain ⟨c0, c1, c2, c3, f0, f1, f2, f3⟩ := four_of HW.out.box; obtain ⟨k0, k1, k2, k3, g0, g1, g2, g3⟩ := four_of (HW.out.below (below_one u3 (.cells #[.int .i64 1, .string ⟨#[]⟩, .int .i64 q, .slice none 0 0] 26))).box; have hel := HL.out; have hPP := HW.out.dat.lt) | (refine step_append_lies _ (by rfl) _ _ _ (by rfl) (P + 1) 26 i0 _ 4 56 Tryz.underlying24 HI.out.1 HI.out.2.1 HI.out.2.2.1 HI.out.2.2.2 rfl (by decide) _ _ _ (by rfl) OW.out ⟨u3.heap.size, 0, none⟩ 1 1 [.int .i64 1, .string ⟨#[]⟩, .int .i64 q, .slice none 0 0] (by rfl) (by rfl) (World.news_of_block (heap_alloc_new u3 _)) (fun u hu => by simp at hu; rcases hu with rfl | rfl | rfl | rfl <;> rfl) (by decide) (by unfold maxLen; omega) (by omega) (by simp; omega) (u3.heap.size + 1) (by simp) ?_; intro g c4 u4 hown hgrow hat hlt4; have hpp := HW.out.push (x := .node 1 ⟨#[]⟩ q none 0 []) (Sits.leaf _ _ _ (by decide)) (New.leaf _ _ _ _ _ _) (by unfold maxLen; omega) hown hgrow hat; have HV := mkHid hpp.2.2; have HVB := mkHid hpp.2.1; simp only [List.length_nil, Nat.zero_add] at HV HVB; obtain ⟨b0, b1, b2, b3, b4, b5, b6, b7⟩ := four_of hpp.1; clear hown hgrow hat hpp))
   all_goals
    obtain ⟨r0, r1, r2, r3, s0, s1, s2, s3⟩ := four_of (v0 := .int .i64 yk) (v1 := .string ys) (v2 := .int .i64 ym) (v3 := .slice (some ⟨g, 0, none⟩) 1 c4) HVB.out
    obtain ⟨d0, d1, d2, d3, e0, e1, e2, e3⟩ := four_of HV.out.dat.res
    go_wp2
    obtain ⟨q0, q1, q2, q3⟩ := put4_cells0 HV.out.dat.res (.int .i64 yk) (.string ys) (.int .i64 ym) (.slice (some ⟨g, 0, none⟩) 1 c4)
    exact bodyPost_ret (v := (A.node yk ys ym (some ⟨g, 0, none⟩) c4 [.node 1 ⟨#[]⟩ q none 0 []]).val) (by simp [results, Tryz.results18, go_sem, q0, q1, q2, q3, A.val]) rfl (DPost.base HB0.out ((HV.out.dat.less (by omega)).fin HV.out.mine (by have h1 := HYE.out; simp only [A.erase, cnt, erases_append, erases, cnts_append, cnts] at h1 ⊢; omega) _ _ _ _))
  ·have HW := mkHid (HT.out.below (below_one u (.cells #[] 26)))
   have hQu := HT.out.boxlt
   have HV := mkHid (HW.out.put 3 (.slice (some ⟨u.heap.size, 0, none⟩) 0 0) (z := .node yk ys ym (some ⟨u.heap.size, 0, none⟩) 0 []) rfl ⟨⟨World.ownsRow_made (e := 26) (size := 4) (base := P + 1) u #[] 0 HT.out.dat.lt (Nat.zero_le _) rfl, trivial, ⟨List.nodup_nil, fun b hb => (by cases hb)⟩, fun g e h => (by cases h)⟩, HT.out.mine.2.1, Nat.zero_le _⟩ (fun q hq => by simp [A.blocks, Value.ownBlock, feet] at hq; omega))
   rw [World.setCell_alloc_past _ _ _ _ hQu] at HV
   clear c0 c1 c2 c3 f0 f1 f2 f3
   obtain ⟨c0, c1, c2, c3, f0, f1, f2, f3⟩ := four_of HW.out.box
   obtain ⟨r0, r1, r2, r3, s0, s1, s2, s3⟩ := four_of (v0 := .int .i64 yk) (v1 := .string ys) (v2 := .int .i64 ym) (v3 := .slice (some ⟨u.heap.size, 0, none⟩) 0 0) HV.out.box
   obtain ⟨d0, d1, d2, d3, e0, e1, e2, e3⟩ := four_of HV.out.dat.res
   go_wp2
   obtain ⟨q0, q1, q2, q3⟩ := put4_cells0 HV.out.dat.res (.int .i64 yk) (.string ys) (.int .i64 ym) (.slice (some ⟨u.heap.size, 0, none⟩) 0 0)
   exact bodyPost_ret (v := (A.node yk ys ym (some ⟨u.heap.size, 0, none⟩) 0 []).val) (by simp [results, Tryz.results18, go_sem, q0, q1, q2, q3, A.val]) rfl (DPost.base HB0.out ((HV.out.dat.less (by omega)).fin HV.out.mine (by have h1 := HYE.out; simp only [A.erase, cnt, erases, cnts] at h1 ⊢; omega) _ _ _ _))
  ·have HR := mkHid (Spo.start HT.out.dat HT.out.mine)
   have HRB := mkHid (HT.out.below (below_one u (.cells #[.int .i64 yk, .string ys, .int .i64 ym, .slice ya 0 yc] 26)))
   have hQu := HT.out.boxlt
   have HSP := mkHid HT.out.sep
   have hPQ := HT.out.lt
   have HR : Hid (Spo w0 (u.alloc (.cells #[.int .i64 yk, .string ys, .int .i64 ym, .slice ya 0 yc] 26)) cb n cap (bud + 1) P u.heap.size a (.node yk ys ym ya yc [])) := HR
   go_wp2_with fail
   refine (pick_any 26 cb n cap bud a _ (by omega) HR.out.dat.cur).mono ?_
   rintro e u2 ⟨q, rfl, q0, q1, hCn, hGn⟩
   have HR2 := mkHid (HR.out.next hCn hGn)
   have HQ2 := mkHid (HRB.out.next hCn hGn).box
   clear hCn hGn HR HRB HT c0 c1 c2 c3 f0 f1 f2 f3
   obtain ⟨R, hR⟩ : ∃ R, u.heap.size = R := ⟨_, rfl⟩
   rw [hR] at HR2 hQu ⊢
   clear hR
   obtain ⟨j, rfl⟩ : ∃ j : Nat, q = j := ⟨q.toNat, by omega⟩
   have hj : j ≤ 25 := by omega
   clear q0 q1
   go_wp2
   go_loopw [8] (fun s8 wr => ∃ (i : Nat) (z : A), i ≤ 25 ∧ s8 = .int .i64 i ∧ Spo w0 wr cb n cap bud P R a z ∧ cnt z.erase + i ≤ cnt (A.node yk ys ym ya yc []).erase + 25 ∧ wr.heap[Q]? = some (.cells #[.int .i64 yk, .string ys, .int .i64 ym, .slice ya 0 yc] 26 (0, 0)) ∧ ∀ q ∈ z.blocks, q ≠ Q) (fun s8 _ => (intOf s8).toNat)
   case atStart => exact ⟨j, _, hj, rfl, HR2.out, by omega, HQ2.out, HSP.out⟩
   case round =>
    obtain ⟨i, z, hi, rfl, hsp, hcz, hq, hsz⟩ := hrel
    have HZ := mkHid hsp
    have HZC := mkHid hcz
    have HZQ := mkHid hq
    have HZS := mkHid hsz
    clear hsp hcz hq hsz HR2 HQ2 HSP
    obtain ⟨zk, zs, zm, za, zc, zkk⟩ := z
    obtain ⟨k0, k1, k2, k3, g0, g1, g2, g3⟩ := four_of (v0 := .int .i64 zk) (v1 := .string zs) (v2 := .int .i64 zm) (v3 := .slice za zkk.length zc) HZ.out.box
    by_cases hi0 : 0 < i
    ·have i1 : decide ((0 : Int) < (i : Int)) = true := by simpa using hi0
     have hwi : IntKind.i64.wrap ((i : Int) - 1) = ((i - 1 : Nat) : Int) := by rw [IntWalk.i64_in _ (by omega)]; omega
     go_wp2_with (first | (go_at_call 42; refine (one_mine2 5 (A.node zk zs zm za zc zkk) _ (P + 1) HZ.out.mine HZ.out.dat.lt).mono ?_; rintro e w6 ⟨b, rfl, hge, hm, hb6⟩; simp only [A.val]; have hwr := HZ.out.wrap hb6 hge hm; have hRb := HZ.out.boxlt; have HY := mkHid hwr.1; have HYB := mkHid hwr.2; have hQ6 := (hb6.block Q (by have := HZQ.out; exact (Array.getElem?_eq_some_iff.1 this).1)).trans HZQ.out; have HYQ := mkHid ((put4_other (w := w6) (p := R) (k := Q) (.int .i64 5) (.string ⟨#[]⟩) (.int .i64 0) (.slice (some ⟨b, 0, none⟩) 1 1) (by omega)).trans hQ6); have hQR := (Array.getElem?_eq_some_iff.1 HZQ.out).1; obtain ⟨k0, k1, k2, k3, g0, g1, g2, g3⟩ := four_of (v0 := .int .i64 zk) (v1 := .string zs) (v2 := .int .i64 zm) (v3 := .slice za zkk.length zc) (HZ.out.below hb6).box; clear hwr hb6 hm hQ6) | go_in)
     go_roundw
     case rel => exact ⟨i - 1, _, by omega, rfl, HY.out, by have := HZC.out; simp only [A.erase, erases, cnt, cnts] at this ⊢; omega, HYQ.out, fun q hq e => (HYB.out q hq).elim (fun h => by omega) (fun h => HZS.out q h e)⟩
     case measure => simp [intOf]; omega
    ·have i1 : decide ((0 : Int) < (i : Int)) = false := by simp; omega
     obtain ⟨l0, l1, l2, l3, m0, m1, m2, m3⟩ := four_of HZQ.out
     have HV := mkHid (HZ.out.over HZQ.out hPQ HZS.out)
     obtain ⟨r0, r1, r2, r3, s0, s1, s2, s3⟩ := four_of (v0 := .int .i64 zk) (v1 := .string zs) (v2 := .int .i64 zm) (v3 := .slice za zkk.length zc) HV.out.box
     obtain ⟨d0, d1, d2, d3, e0, e1, e2, e3⟩ := four_of HV.out.dat.res
     go_wp2
     obtain ⟨q0, q1, q2, q3⟩ := put4_cells0 HV.out.dat.res (.int .i64 zk) (.string zs) (.int .i64 zm) (.slice za zkk.length zc)
     exact bodyPost_ret (v := (A.node zk zs zm za zc zkk).val) (by simp [results, Tryz.results18, go_sem, q0, q1, q2, q3, A.val]) rfl (DPost.base HB0.out ((HV.out.dat.less (by omega)).fin HV.out.mine (by have h1 := HYE.out; have h2 := HZC.out; simp only [A.erase, cnt] at h1 h2 ⊢; omega) _ _ _ _))
 ·have i1 : decide ((0 : Int) < (ykk.length : Int)) = true := by simp; omega
  go_wp2_with fail
  refine (pick_any 4 cb n cap (bud + (2 * (N + 1) + 2)) a _ (by omega) HS1.out.dat.cur).mono ?_
  rintro e w4 ⟨t, rfl, t0, t1, hCn, hGn⟩
  have HS1 := mkHid (HS1.out.next hCn hGn)
  clear hCn hGn c0 c1 c2 c3 f0 f1 f2 f3 t0 t1
  obtain ⟨c0, c1, c2, c3, f0, f1, f2, f3⟩ := four_of HS1.out.box
  by_cases ht : 0 < t
  ·have i2 : decide (0 < t) = true := by simpa using ht
   go_wp2_with fail
   refine (pick_any (ykk.length : Int) cb n cap (bud + (2 * N + 3)) a _ (by have := HL.out; omega) (HS1.out.less (by omega)).dat.cur).mono ?_
   rintro e v1 ⟨q, rfl, q0, q1, hCn, hGn⟩
   have HS2 := mkHid (HS1.out.next hCn hGn)
   clear hCn hGn c0 c1 c2 c3 f0 f1 f2 f3
   obtain ⟨k, rfl⟩ : ∃ k : Nat, q = k := ⟨q.toNat, by omega⟩
   have hkl : k < ykk.length := by omega
   have q1 : (k : Int) < (ykk.length : Int) := by omega
   obtain ⟨Q, hQ⟩ : ∃ q, w2.heap.size = q := ⟨_, rfl⟩
   rw [hQ] at HS2 ⊢
   clear hQ HS1
   obtain ⟨g, cq, hf, hg1, hg2⟩ := HS2.out.mine.1.own.form (by omega)
   simp only [Value.slice.injEq, true_and] at hf
   obtain ⟨rfl, rfl⟩ := hf
   obtain ⟨z, hz⟩ : ∃ z, ykk[k]? = some z := ⟨_, List.getElem?_eq_getElem hkl⟩
   have HSK := mkHid ((sitsL_iff _ _).1 HS2.out.drew.mine.1.sits z (List.mem_of_getElem? hz))
   have HGE := mkHid (List.getElem?_eq_some_iff.1 hz)
   obtain ⟨zk, zs, zm, za, zc, zkk⟩ := z
   have HK4 := mkHid (cellsL_get hz)
   have HKL := mkHid hkl
   have HCK : Hid (cnt (A.node zk zs zm za zc zkk).erase ≤ N) := mkHid (by
    have h1 := HYE.out
    have h2 := HCX.out
    have h3 := erases_set (z := A.node zk zs zm za zc zkk) hkl
    have h4 := cnt_kid hkl
    obtain ⟨_, h5⟩ := HGE.out
    rw [h5] at h4
    simp only [A.erase, cnt] at h1 h2 h4 ⊢
    omega)
   have HKB : Hid (k * 4 < ykk.length * 4 ∧ k * 4 + 1 < ykk.length * 4 ∧ k * 4 + 2 < ykk.length * 4 ∧ k * 4 + 3 < ykk.length * 4) := mkHid (by omega)
   clear hz
   obtain ⟨c0, c1, c2, c3, f0, f1, f2, f3⟩ := four_of (w := v1.drew) HS2.out.drew.box
   have p0 := HS2.out.drew.mine.1.own.cellAt (k * 4) HKB.out.1
   have p1 := HS2.out.drew.mine.1.own.cellAt (k * 4 + 1) HKB.out.2.1
   have p2 := HS2.out.drew.mine.1.own.cellAt (k * 4 + 2) HKB.out.2.2.1
   have p3 := HS2.out.drew.mine.1.own.cellAt (k * 4 + 3) HKB.out.2.2.2
   rw [HK4.out.1] at p0
   rw [HK4.out.2.1] at p1
   rw [HK4.out.2.2.1] at p2
   rw [HK4.out.2.2.2] at p3
   have hk0 : (0 : Int) ≤ (k : Int) := by omega
   clear hkl q0
   go_wp2
   obtain ⟨c0, c1, c2, c3, f0, f1, f2, f3⟩ := four_of (w := v1.drew) HS2.out.drew.box
   go_region_law (first | (go_simp; go_at_call 18; refine (HIH.out (A.node zk zs zm za zc zkk) cb n cap bud a _ HCK.out HSK.out (HS2.out.drew.dat.cur)).mono ?_; rintro e v2 ⟨y, rfl, hy, hky, hC6, hG6⟩; obtain ⟨tk, ts, tm, ta, tc, tkk⟩ := y; have hsw := HS2.out.drew.swap hC6 hG6 hy HKL.out; have HV := mkHid hsw.2; have HVB := mkHid hsw.1; have HV2 := mkHid (HS2.out.drew.next hC6 hG6); have HTK := mkHid hky; clear hC6 hG6 hy hky hsw; simp only [A.val]; obtain ⟨k0, k1, k2, k3, l0, l1, l2, l3⟩ := four_of HV2.out.box; have x0 := HV2.out.mine.1.own.cellAt (k * 4) HKB.out.1; have x1 := HV2.out.mine.1.own.cellAt (k * 4 + 1) HKB.out.2.1; have x2 := HV2.out.mine.1.own.cellAt (k * 4 + 2) HKB.out.2.2.1; have x3 := HV2.out.mine.1.own.cellAt (k * 4 + 3) HKB.out.2.2.2; rw [HK4.out.1] at x0; rw [HK4.out.2.1] at x1; rw [HK4.out.2.2.1] at x2; rw [HK4.out.2.2.2] at x3; have y0 := HV2.out.mine.1.own.frozenAt (k * 4); have y1 := HV2.out.mine.1.own.frozenAt (k * 4 + 1); have y2 := HV2.out.mine.1.own.frozenAt (k * 4 + 2); have y3 := HV2.out.mine.1.own.frozenAt (k * 4 + 3)))
   all_goals
    obtain ⟨r0, r1, r2, r3, s0, s1, s2, s3⟩ := four_of (v0 := .int .i64 yk) (v1 := .string ys) (v2 := .int .i64 ym) (v3 := .slice (some ⟨g, 0, none⟩) ykk.length yc) HVB.out
    obtain ⟨d0, d1, d2, d3, e0, e1, e2, e3⟩ := four_of HV.out.dat.res
    go_wp2
    obtain ⟨q0, q1, q2, q3⟩ := put4_cells0 HV.out.dat.res (.int .i64 yk) (.string ys) (.int .i64 ym) (.slice (some ⟨g, 0, none⟩) ykk.length yc)
    exact bodyPost_ret (v := (A.node yk ys ym (some ⟨g, 0, none⟩) yc (ykk.set k (.node tk ts tm ta tc tkk))).val) (by simp [results, Tryz.results18, go_sem, q0, q1, q2, q3, A.val]) rfl (DPost.base HB0.out ((HV.out.dat.less (by omega)).fin HV.out.mine (by have h1 := HYE.out; have h2 := HTK.out; have h3 := erases_set (z := A.node tk ts tm ta tc tkk) HKL.out; obtain ⟨_, h5⟩ := HGE.out; rw [h5] at h3; simp only [A.erase, cnt] at h1 h2 h3 ⊢; omega) _ _ _ _))
  ·have i2 : decide (0 < t) = false := by simpa using ht
   go_wp2_with fail
   refine (pick_any 6 cb n cap (bud + 1) a _ (by omega) (HS1.out.less (by omega)).dat.cur).mono ?_
   rintro e u ⟨r, rfl, r0, r1, hCn, hGn⟩
   have HT := mkHid (HS1.out.next hCn hGn)
   clear hCn hGn HS1 c0 c1 c2 c3 f0 f1 f2 f3
   have rr : 0 ≤ r ∧ r < 6 := by omega
   clear r0 r1
   obtain ⟨Q, hQ⟩ : ∃ q, w2.heap.size = q := ⟨_, rfl⟩
   rw [hQ] at HT ⊢
   clear hQ
   obtain ⟨c0, c1, c2, c3, f0, f1, f2, f3⟩ := four_of HT.out.box
   rcases (by omega : r = 0 ∨ r = 1 ∨ r = 2 ∨ r = 3 ∨ r = 4 ∨ r = 5) with rfl | rfl | rfl | rfl | rfl | rfl
   ·go_wp2_with fail
    refine (pick_any 42 cb n cap bud a _ (by omega) HT.out.dat.cur).mono ?_
    rintro e u2 ⟨q, rfl, q0, q1, hCn, hGn⟩
    have HU := mkHid (HT.out.next hCn hGn)
    clear hCn hGn HT c0 c1 c2 c3 f0 f1 f2 f3 q0 q1
    obtain ⟨c0, c1, c2, c3, f0, f1, f2, f3⟩ := four_of HU.out.box
    have HV := mkHid (HU.out.put 0 (.int .i64 q) (z := .node q ys ym ya yc ykk) rfl HU.out.mine HU.out.sep)
    obtain ⟨r0, r1, r2, r3, s0, s1, s2, s3⟩ := four_of (v0 := .int .i64 q) (v1 := .string ys) (v2 := .int .i64 ym) (v3 := .slice ya ykk.length yc) HV.out.box
    obtain ⟨d0, d1, d2, d3, e0, e1, e2, e3⟩ := four_of HV.out.dat.res
    go_wp2
    obtain ⟨q0, q1, q2, q3⟩ := put4_cells0 HV.out.dat.res (.int .i64 q) (.string ys) (.int .i64 ym) (.slice ya ykk.length yc)
    exact bodyPost_ret (v := (A.node q ys ym ya yc ykk).val) (by simp [results, Tryz.results18, go_sem, q0, q1, q2, q3, A.val]) rfl (DPost.base HB0.out ((HV.out.dat.less (by omega)).fin HV.out.mine (by have h1 := HYE.out; simp only [A.erase, cnt] at h1 ⊢; omega) _ _ _ _))
   ·go_wp2_with fail
    refine (pick_any 6 cb n cap bud a _ (by omega) (HT.out.dat.cur.alloc _)).mono ?_
    rintro e u2 ⟨q, rfl, q0, q1, hCn, hGn⟩
    have hne : u.heap.size ≠ cb := by have := HT.out.dat.cur.lt; omega
    have HKK := mkHid (fun i => grown_cell (b := u.heap.size) (i := i) hGn (by simp) hne)
    have HU := mkHid ((HT.out.below (below_one u _)).next hCn hGn)
    clear hCn hGn HT c0 c1 c2 c3 f0 f1 f2 f3
    obtain ⟨m, rfl⟩ : ∃ m : Nat, q = m := ⟨q.toNat, by omega⟩
    have t0 := HKK.out m
    have hm : m < 6 := by omega
    clear q1 HKK
    obtain ⟨c0, c1, c2, c3, f0, f1, f2, f3⟩ := four_of HU.out.box
    rcases (by omega : m = 0 ∨ m = 1 ∨ m = 2 ∨ m = 3 ∨ m = 4 ∨ m = 5) with rfl | rfl | rfl | rfl | rfl | rfl
    ·simp [go_sem] at t0
     have HV := mkHid (HU.out.put 1 (.string ⟨#[]⟩) (z := .node yk ⟨#[]⟩ ym ya yc ykk) rfl ⟨HU.out.mine.1, by decide, HU.out.mine.2.2⟩ HU.out.sep)
     obtain ⟨r0, r1, r2, r3, s0, s1, s2, s3⟩ := four_of (v0 := .int .i64 yk) (v1 := .string ⟨#[]⟩) (v2 := .int .i64 ym) (v3 := .slice ya ykk.length yc) HV.out.box
     obtain ⟨d0, d1, d2, d3, e0, e1, e2, e3⟩ := four_of HV.out.dat.res
     go_wp2
     obtain ⟨q0, q1, q2, q3⟩ := put4_cells0 HV.out.dat.res (.int .i64 yk) (.string ⟨#[]⟩) (.int .i64 ym) (.slice ya ykk.length yc)
     exact bodyPost_ret (v := (A.node yk ⟨#[]⟩ ym ya yc ykk).val) (by simp [results, Tryz.results18, go_sem, q0, q1, q2, q3, A.val]) rfl (DPost.base HB0.out ((HV.out.dat.less (by omega)).fin HV.out.mine (by have h1 := HYE.out; simp only [A.erase, cnt] at h1 ⊢; omega) _ _ _ _))
    ·simp [go_sem] at t0
     have HV := mkHid (HU.out.put 1 (.string ⟨#[105, 102]⟩) (z := .node yk ⟨#[105, 102]⟩ ym ya yc ykk) rfl ⟨HU.out.mine.1, by decide, HU.out.mine.2.2⟩ HU.out.sep)
     obtain ⟨r0, r1, r2, r3, s0, s1, s2, s3⟩ := four_of (v0 := .int .i64 yk) (v1 := .string ⟨#[105, 102]⟩) (v2 := .int .i64 ym) (v3 := .slice ya ykk.length yc) HV.out.box
     obtain ⟨d0, d1, d2, d3, e0, e1, e2, e3⟩ := four_of HV.out.dat.res
     go_wp2
     obtain ⟨q0, q1, q2, q3⟩ := put4_cells0 HV.out.dat.res (.int .i64 yk) (.string ⟨#[105, 102]⟩) (.int .i64 ym) (.slice ya ykk.length yc)
     exact bodyPost_ret (v := (A.node yk ⟨#[105, 102]⟩ ym ya yc ykk).val) (by simp [results, Tryz.results18, go_sem, q0, q1, q2, q3, A.val]) rfl (DPost.base HB0.out ((HV.out.dat.less (by omega)).fin HV.out.mine (by have h1 := HYE.out; simp only [A.erase, cnt] at h1 ⊢; omega) _ _ _ _))
    ·simp [go_sem] at t0
     have HV := mkHid (HU.out.put 1 (.string ⟨#[97]⟩) (z := .node yk ⟨#[97]⟩ ym ya yc ykk) rfl ⟨HU.out.mine.1, by decide, HU.out.mine.2.2⟩ HU.out.sep)
     obtain ⟨r0, r1, r2, r3, s0, s1, s2, s3⟩ := four_of (v0 := .int .i64 yk) (v1 := .string ⟨#[97]⟩) (v2 := .int .i64 ym) (v3 := .slice ya ykk.length yc) HV.out.box
     obtain ⟨d0, d1, d2, d3, e0, e1, e2, e3⟩ := four_of HV.out.dat.res
     go_wp2
     obtain ⟨q0, q1, q2, q3⟩ := put4_cells0 HV.out.dat.res (.int .i64 yk) (.string ⟨#[97]⟩) (.int .i64 ym) (.slice ya ykk.length yc)
     exact bodyPost_ret (v := (A.node yk ⟨#[97]⟩ ym ya yc ykk).val) (by simp [results, Tryz.results18, go_sem, q0, q1, q2, q3, A.val]) rfl (DPost.base HB0.out ((HV.out.dat.less (by omega)).fin HV.out.mine (by have h1 := HYE.out; simp only [A.erase, cnt] at h1 ⊢; omega) _ _ _ _))
    ·simp [go_sem] at t0
     have HV := mkHid (HU.out.put 1 (.string ⟨#[65]⟩) (z := .node yk ⟨#[65]⟩ ym ya yc ykk) rfl ⟨HU.out.mine.1, by decide, HU.out.mine.2.2⟩ HU.out.sep)
     obtain ⟨r0, r1, r2, r3, s0, s1, s2, s3⟩ := four_of (v0 := .int .i64 yk) (v1 := .string ⟨#[65]⟩) (v2 := .int .i64 ym) (v3 := .slice ya ykk.length yc) HV.out.box
     obtain ⟨d0, d1, d2, d3, e0, e1, e2, e3⟩ := four_of HV.out.dat.res
     go_wp2
     obtain ⟨q0, q1, q2, q3⟩ := put4_cells0 HV.out.dat.res (.int .i64 yk) (.string ⟨#[65]⟩) (.int .i64 ym) (.slice ya ykk.length yc)
     exact bodyPost_ret (v := (A.node yk ⟨#[65]⟩ ym ya yc ykk).val) (by simp [results, Tryz.results18, go_sem, q0, q1, q2, q3, A.val]) rfl (DPost.base HB0.out ((HV.out.dat.less (by omega)).fin HV.out.mine (by have h1 := HYE.out; simp only [A.erase, cnt] at h1 ⊢; omega) _ _ _ _))
    ·simp [go_sem] at t0
     have HV := mkHid (HU.out.put 1 (.string ⟨#[97, 98, 99, 100, 101, 102, 103, 104, 105]⟩) (z := .node yk ⟨#[97, 98, 99, 100, 101, 102, 103, 104, 105]⟩ ym ya yc ykk) rfl ⟨HU.out.mine.1, by decide, HU.out.mine.2.2⟩ HU.out.sep)
     obtain ⟨r0, r1, r2, r3, s0, s1, s2, s3⟩ := four_of (v0 := .int .i64 yk) (v1 := .string ⟨#[97, 98, 99, 100, 101, 102, 103, 104, 105]⟩) (v2 := .int .i64 ym) (v3 := .slice ya ykk.length yc) HV.out.box
     obtain ⟨d0, d1, d2, d3, e0, e1, e2, e3⟩ := four_of HV.out.dat.res
     go_wp2
     obtain ⟨q0, q1, q2, q3⟩ := put4_cells0 HV.out.dat.res (.int .i64 yk) (.string ⟨#[97, 98, 99, 100, 101, 102, 103, 104, 105]⟩) (.int .i64 ym) (.slice ya ykk.length yc)
     exact bodyPost_ret (v := (A.node yk ⟨#[97, 98, 99, 100, 101, 102, 103, 104, 105]⟩ ym ya yc ykk).val) (by simp [results, Tryz.results18, go_sem, q0, q1, q2, q3, A.val]) rfl (DPost.base HB0.out ((HV.out.dat.less (by omega)).fin HV.out.mine (by have h1 := HYE.out; simp only [A.erase, cnt] at h1 ⊢; omega) _ _ _ _))
    ·simp [go_sem] at t0
     have HV := mkHid (HU.out.put 1 (.string ⟨#[105]⟩) (z := .node yk ⟨#[105]⟩ ym ya yc ykk) rfl ⟨HU.out.mine.1, by decide, HU.out.mine.2.2⟩ HU.out.sep)
     obtain ⟨r0, r1, r2, r3, s0, s1, s2, s3⟩ := four_of (v0 := .int .i64 yk) (v1 := .string ⟨#[105]⟩) (v2 := .int .i64 ym) (v3 := .slice ya ykk.length yc) HV.out.box
     obtain ⟨d0, d1, d2, d3, e0, e1, e2, e3⟩ := four_of HV.out.dat.res
     go_wp2
     obtain ⟨q0, q1, q2, q3⟩ := put4_cells0 HV.out.dat.res (.int .i64 yk) (.string ⟨#[105]⟩) (.int .i64 ym) (.slice ya ykk.length yc)
     exact bodyPost_ret (v := (A.node yk ⟨#[105]⟩ ym ya yc ykk).val) (by simp [results, Tryz.results18, go_sem, q0, q1, q2, q3, A.val]) rfl (DPost.base HB0.out ((HV.out.dat.less (by omega)).fin HV.out.mine (by have h1 := HYE.out; simp only [A.erase, cnt] at h1 ⊢; omega) _ _ _ _))
   ·go_wp2_with fail
    refine (pick_any 5 cb n cap bud a _ (by omega) (HT.out.dat.cur.alloc _)).mono ?_
    rintro e u2 ⟨q, rfl, q0, q1, hCn, hGn⟩
    have hne : u.heap.size ≠ cb := by have := HT.out.dat.cur.lt; omega
    have HKK := mkHid (fun i => grown_cell (b := u.heap.size) (i := i) hGn (by simp) hne)
    have HU := mkHid ((HT.out.below (below_one u _)).next hCn hGn)
    clear hCn hGn HT c0 c1 c2 c3 f0 f1 f2 f3
    obtain ⟨m, rfl⟩ : ∃ m : Nat, q = m := ⟨q.toNat, by omega⟩
    have t0 := HKK.out m
    have hm : m < 5 := by omega
    clear q1 HKK
    obtain ⟨c0, c1, c2, c3, f0, f1, f2, f3⟩ := four_of HU.out.box
    rcases (by omega : m = 0 ∨ m = 1 ∨ m = 2 ∨ m = 3 ∨ m = 4) with rfl | rfl | rfl | rfl | rfl
    ·simp [go_sem] at t0
     have HV := mkHid (HU.out.put 2 (.int .i64 1) (z := .node yk ys 1 ya yc ykk) rfl HU.out.mine HU.out.sep)
     obtain ⟨r0, r1, r2, r3, s0, s1, s2, s3⟩ := four_of (v0 := .int .i64 yk) (v1 := .string ys) (v2 := .int .i64 1) (v3 := .slice ya ykk.length yc) HV.out.box
     obtain ⟨d0, d1, d2, d3, e0, e1, e2, e3⟩ := four_of HV.out.dat.res
     go_wp2
     obtain ⟨q0, q1, q2, q3⟩ := put4_cells0 HV.out.dat.res (.int .i64 yk) (.string ys) (.int .i64 1) (.slice ya ykk.length yc)
     exact bodyPost_ret (v := (A.node yk ys 1 ya yc ykk).val) (by simp [results, Tryz.results18, go_sem, q0, q1, q2, q3, A.val]) rfl (DPost.base HB0.out ((HV.out.dat.less (by omega)).fin HV.out.mine (by have h1 := HYE.out; simp only [A.erase, cnt] at h1 ⊢; omega) _ _ _ _))
    ·simp [go_sem] at t0
     have HV := mkHid (HU.out.put 2 (.int .i64 (-1)) (z := .node yk ys (-1) ya yc ykk) rfl HU.out.mine HU.out.sep)
     obtain ⟨r0, r1, r2, r3, s0, s1, s2, s3⟩ := four_of (v0 := .int .i64 yk) (v1 := .string ys) (v2 := .int .i64 (-1)) (v3 := .slice ya ykk.length yc) HV.out.box
     obtain ⟨d0, d1, d2, d3, e0, e1, e2, e3⟩ := four_of HV.out.dat.res
     go_wp2
     obtain ⟨q0, q1, q2, q3⟩ := put4_cells0 HV.out.dat.res (.int .i64 yk) (.string ys) (.int .i64 (-1)) (.slice ya ykk.length yc)
     exact bodyPost_ret (v := (A.node yk ys (-1) ya yc ykk).val) (by simp [results, Tryz.results18, go_sem, q0, q1, q2, q3, A.val]) rfl (DPost.base HB0.out ((HV.out.dat.less (by omega)).fin HV.out.mine (by have h1 := HYE.out; simp only [A.erase, cnt] at h1 ⊢; omega) _ _ _ _))
    ·simp [go_sem] at t0
     have HV := mkHid (HU.out.put 2 (.int .i64 (-2)) (z := .node yk ys (-2) ya yc ykk) rfl HU.out.mine HU.out.sep)
     obtain ⟨r0, r1, r2, r3, s0, s1, s2, s3⟩ := four_of (v0 := .int .i64 yk) (v1 := .string ys) (v2 := .int .i64 (-2)) (v3 := .slice ya ykk.length yc) HV.out.box
     obtain ⟨d0, d1, d2, d3, e0, e1, e2, e3⟩ := four_of HV.out.dat.res
     go_wp2
     obtain ⟨q0, q1, q2, q3⟩ := put4_cells0 HV.out.dat.res (.int .i64 yk) (.string ys) (.int .i64 (-2)) (.slice ya ykk.length yc)
     exact bodyPost_ret (v := (A.node yk ys (-2) ya yc ykk).val) (by simp [results, Tryz.results18, go_sem, q0, q1, q2, q3, A.val]) rfl (DPost.base HB0.out ((HV.out.dat.less (by omega)).fin HV.out.mine (by have h1 := HYE.out; simp only [A.erase, cnt] at h1 ⊢; omega) _ _ _ _))
    ·simp [go_sem] at t0
     have HV := mkHid (HU.out.put 2 (.int .i64 1000000) (z := .node yk ys 1000000 ya yc ykk) rfl HU.out.mine HU.out.sep)
     obtain ⟨r0, r1, r2, r3, s0, s1, s2, s3⟩ := four_of (v0 := .int .i64 yk) (v1 := .string ys) (v2 := .int .i64 1000000) (v3 := .slice ya ykk.length yc) HV.out.box
     obtain ⟨d0, d1, d2, d3, e0, e1, e2, e3⟩ := four_of HV.out.dat.res
     go_wp2
     obtain ⟨q0, q1, q2, q3⟩ := put4_cells0 HV.out.dat.res (.int .i64 yk) (.string ys) (.int .i64 1000000) (.slice ya ykk.length yc)
     exact bodyPost_ret (v := (A.node yk ys 1000000 ya yc ykk).val) (by simp [results, Tryz.results18, go_sem, q0, q1, q2, q3, A.val]) rfl (DPost.base HB0.out ((HV.out.dat.less (by omega)).fin HV.out.mine (by have h1 := HYE.out; simp only [A.erase, cnt] at h1 ⊢; omega) _ _ _ _))
    ·simp [go_sem] at t0
     have HV := mkHid (HU.out.put 2 (.int .i64 1000001) (z := .node yk ys 1000001 ya yc ykk) rfl HU.out.mine HU.out.sep)
     obtain ⟨r0, r1, r2, r3, s0, s1, s2, s3⟩ := four_of (v0 := .int .i64 yk) (v1 := .string ys) (v2 := .int .i64 1000001) (v3 := .slice ya ykk.length yc) HV.out.box
     obtain ⟨d0, d1, d2, d3, e0, e1, e2, e3⟩ := four_of HV.out.dat.res
     go_wp2
     obtain ⟨q0, q1, q2, q3⟩ := put4_cells0 HV.out.dat.res (.int .i64 yk) (.string ys) (.int .i64 1000001) (.slice ya ykk.length yc)
     exact bodyPost_ret (v := (A.node yk ys 1000001 ya yc ykk).val) (by simp [results, Tryz.results18, go_sem, q0, q1, q2, q3, A.val]) rfl (DPost.base HB0.out ((HV.out.dat.less (by omega)).fin HV.out.mine (by have h1 := HYE.out; simp only [A.erase, cnt] at h1 ⊢; omega) _ _ _ _))
   ·go_wp2
    go_region_law (first | (go_simp; go_at_call 38; refine (pick_any 3 cb n cap bud a _ (by omega) HT.out.drew.dat.cur).mono ?_; rintro e u2 ⟨q, rfl, q0, q1, hCn, hGn⟩; have HU := mkHid (HT.out.drew.next hCn hGn); clear hCn hGn; obtain ⟨c0, c1, c2, c3, f0, f1, f2, f3⟩ := four_of HU.out.box) | (go_simp; go_at_call 37; refine (sNum_any q _ q0).mono ?_; rintro e u3 ⟨rfl, hb3⟩; have HW := mkHid (HU.out.below hb3); clear hb3; simp only [A.val]; have OW := mkHid (HW.out.mine.1.own.alloc (.cells #[.int .i64 1, .string ⟨#[]⟩, .int .i64 q, .slice none 0 0] 26)); obtain ⟨c0, c1, c2, c3, f0, f1, f2, f3⟩ := four_of HW.out.box; obtain ⟨k0, k1, k2, k3, g0, g1, g2, g3⟩ := four_of (HW.out.below (below_one u3 (.cells #[.int .i64 1, .string ⟨#[]⟩, .int .i64 q, .slice none 0 0] 26))).box; have hel := HL.out; have hPP := HW.out.dat.lt) | (refine step_append_lies _ (by rfl) _ _ _ (by rfl) (P + 1) 26 i0 _ 4 56 Tryz.underlying24 HI.out.1 HI.out.2.1 HI.out.2.2.1 HI.out.2.2.2 rfl (by decide) _ _ _ (by rfl) OW.out ⟨u3.heap.size, 0, none⟩ 1 1 [.int .i64 1, .string ⟨#[]⟩, .int .i64 q, .slice none 0 0] (by rfl) (by rfl) (World.news_of_block (heap_alloc_new u3 _)) (fun u hu => by simp at hu; rcases hu with rfl | rfl | rfl | rfl <;> rfl) (by decide) (by unfold maxLen; omega) (by omega) (by simp; omega) (u3.heap.size + 1) (by simp) ?_; intro g c4 u4 hown hgrow hat hlt4; have hpp := HW.out.push (x := .node 1 ⟨#[]⟩ q none 0 []) (Sits.leaf _ _ _ (by decide)) (New.leaf _ _ _ _ _ _) (by unfold maxLen; omega) hown hgrow hat; have HV := mkHid hpp.2.2; have HVB := mkHid hpp.2.1; obtain ⟨b0, b1, b2, b3, b4, b5, b6, b7⟩ := four_of hpp.1; clear hown hgrow hat hpp))
    all_goals
     obtain ⟨r0, r1, r2, r3, s0, s1, s2, s3⟩ := four_of (v0 := .int .i64 yk) (v1 := .string ys) (v2 := .int .i64 ym) (v3 := .slice (some ⟨g, 0, none⟩) (ykk.length + 1) c4) HVB.out
     obtain ⟨d0, d1, d2, d3, e0, e1, e2, e3⟩ := four_of HV.out.dat.res
     go_wp2
     obtain ⟨q0, q1, q2, q3⟩ := put4_cells0 HV.out.dat.res (.int .i64 yk) (.string ys) (.int .i64 ym) (.slice (some ⟨g, 0, none⟩) (ykk.length + 1) c4)
     exact bodyPost_ret (v := (A.node yk ys ym (some ⟨g, 0, none⟩) c4 (ykk ++ [.node 1 ⟨#[]⟩ q none 0 []])).val) (by simp [results, Tryz.results18, go_sem, q0, q1, q2, q3, A.val]) rfl (DPost.base HB0.out ((HV.out.dat.less (by omega)).fin HV.out.mine (by have h1 := HYE.out; simp only [A.erase, cnt, erases_append, erases, cnts_append, cnts] at h1 ⊢; omega) _ _ _ _))
   ·have HW := mkHid (HT.out.below (below_one u (.cells #[] 26)))
    have hQu := HT.out.boxlt
    have HV := mkHid (HW.out.put 3 (.slice (some ⟨u.heap.size, 0, none⟩) 0 0) (z := .node yk ys ym (some ⟨u.heap.size, 0, none⟩) 0 []) rfl ⟨⟨World.ownsRow_made (e := 26) (size := 4) (base := P + 1) u #[] 0 HT.out.dat.lt (Nat.zero_le _) rfl, trivial, ⟨List.nodup_nil, fun b hb => (by cases hb)⟩, fun g e h => (by cases h)⟩, HT.out.mine.2.1, Nat.zero_le _⟩ (fun q hq => by simp [A.blocks, Value.ownBlock, feet] at hq; omega))
    rw [World.setCell_alloc_past _ _ _ _ hQu] at HV
    clear c0 c1 c2 c3 f0 f1 f2 f3
    obtain ⟨c0, c1, c2, c3, f0, f1, f2, f3⟩ := four_of HW.out.box
    obtain ⟨r0, r1, r2, r3, s0, s1, s2, s3⟩ := four_of (v0 := .int .i64 yk) (v1 := .string ys) (v2 := .int .i64 ym) (v3 := .slice (some ⟨u.heap.size, 0, none⟩) 0 0) HV.out.box
    obtain ⟨d0, d1, d2, d3, e0, e1, e2, e3⟩ := four_of HV.out.dat.res
    go_wp2
    obtain ⟨q0, q1, q2, q3⟩ := put4_cells0 HV.out.dat.res (.int .i64 yk) (.string ys) (.int .i64 ym) (.slice (some ⟨u.heap.size, 0, none⟩) 0 0)
    exact bodyPost_ret (v := (A.node yk ys ym (some ⟨u.heap.size, 0, none⟩) 0 []).val) (by simp [results, Tryz.results18, go_sem, q0, q1, q2, q3, A.val]) rfl (DPost.base HB0.out ((HV.out.dat.less (by omega)).fin HV.out.mine (by have h1 := HYE.out; simp only [A.erase, cnt, erases, cnts] at h1 ⊢; omega) _ _ _ _))
   ·have HR := mkHid (Spo.start HT.out.dat HT.out.mine)
    have HRB := mkHid (HT.out.below (below_one u (.cells #[.int .i64 yk, .string ys, .int .i64 ym, .slice ya ykk.length yc] 26)))
    have hQu := HT.out.boxlt
    have HSP := mkHid HT.out.sep
    have hPQ := HT.out.lt
    have HR : Hid (Spo w0 (u.alloc (.cells #[.int .i64 yk, .string ys, .int .i64 ym, .slice ya ykk.length yc] 26)) cb n cap (bud + 1) P u.heap.size a (.node yk ys ym ya yc ykk)) := HR
    go_wp2_with fail
    refine (pick_any 26 cb n cap bud a _ (by omega) HR.out.dat.cur).mono ?_
    rintro e u2 ⟨q, rfl, q0, q1, hCn, hGn⟩
    have HR2 := mkHid (HR.out.next hCn hGn)
    have HQ2 := mkHid (HRB.out.next hCn hGn).box
    clear hCn hGn HR HRB HT c0 c1 c2 c3 f0 f1 f2 f3
    obtain ⟨R, hR⟩ : ∃ R, u.heap.size = R := ⟨_, rfl⟩
    rw [hR] at HR2 hQu ⊢
    clear hR
    obtain ⟨j, rfl⟩ : ∃ j : Nat, q = j := ⟨q.toNat, by omega⟩
    have hj : j ≤ 25 := by omega
    clear q0 q1
    go_wp2
    go_loopw [8] (fun s8 wr => ∃ (i : Nat) (z : A), i ≤ 25 ∧ s8 = .int .i64 i ∧ Spo w0 wr cb n cap bud P R a z ∧ cnt z.erase + i ≤ cnt (A.node yk ys ym ya yc ykk).erase + 25 ∧ wr.heap[Q]? = some (.cells #[.int .i64 yk, .string ys, .int .i64 ym, .slice ya ykk.length yc] 26 (0, 0)) ∧ ∀ q ∈ z.blocks, q ≠ Q) (fun s8 _ => (intOf s8).toNat)
    case atStart => exact ⟨j, _, hj, rfl, HR2.out, by omega, HQ2.out, HSP.out⟩
    case round =>
     obtain ⟨i, z, hi, rfl, hsp, hcz, hq, hsz⟩ := hrel
     have HZ := mkHid hsp
     have HZC := mkHid hcz
     have HZQ := mkHid hq
     have HZS := mkHid hsz
     clear hsp hcz hq hsz HR2 HQ2 HSP
     obtain ⟨zk, zs, zm, za, zc, zkk⟩ := z
     obtain ⟨k0, k1, k2, k3, g0, g1, g2, g3⟩ := four_of (v0 := .int .i64 zk) (v1 := .string zs) (v2 := .int .i64 zm) (v3 := .slice za zkk.length zc) HZ.out.box
     by_cases hi0 : 0 < i
     ·have i1 : decide ((0 : Int) < (i : Int)) = true := by simpa using hi0
      have hwi : IntKind.i64.wrap ((i : Int) - 1) = ((i - 1 : Nat) : Int) := by rw [IntWalk.i64_in _ (by omega)]; omega
      go_wp2_with (first | (go_at_call 42; refine (one_mine2 5 (A.node zk zs zm za zc zkk) _ (P + 1) HZ.out.mine HZ.out.dat.lt).mono ?_; rintro e w6 ⟨b, rfl, hge, hm, hb6⟩; simp only [A.val]; have hwr := HZ.out.wrap hb6 hge hm; have hRb := HZ.out.boxlt; have HY := mkHid hwr.1; have HYB := mkHid hwr.2; have hQ6 := (hb6.block Q (by have := HZQ.out; exact (Array.getElem?_eq_some_iff.1 this).1)).trans HZQ.out; have HYQ := mkHid ((put4_other (w := w6) (p := R) (k := Q) (.int .i64 5) (.string ⟨#[]⟩) (.int .i64 0) (.slice (some ⟨b, 0, none⟩) 1 1) (by omega)).trans hQ6); have hQR := (Array.getElem?_eq_some_iff.1 HZQ.out).1; obtain ⟨k0, k1, k2, k3, g0, g1, g2, g3⟩ := four_of (v0 := .int .i64 zk) (v1 := .string zs) (v2 := .int .i64 zm) (v3 := .slice za zkk.length zc) (HZ.out.below hb6).box; clear hwr hb6 hm hQ6) | go_in)
      go_roundw
      case rel => exact ⟨i - 1, _, by omega, rfl, HY.out, by have := HZC.out; simp only [A.erase, erases, cnt, cnts] at this ⊢; omega, HYQ.out, fun q hq e => (HYB.out q hq).elim (fun h => by omega) (fun h => HZS.out q h e)⟩
      case measure => simp [intOf]; omega
     ·have i1 : decide ((0 : Int) < (i : Int)) = false := by simp; omega
      obtain ⟨l0, l1, l2, l3, m0, m1, m2, m3⟩ := four_of HZQ.out
      have HV := mkHid (HZ.out.over HZQ.out hPQ HZS.out)
      obtain ⟨r0, r1, r2, r3, s0, s1, s2, s3⟩ := four_of (v0 := .int .i64 zk) (v1 := .string zs) (v2 := .int .i64 zm) (v3 := .slice za zkk.length zc) HV.out.box
      obtain ⟨d0, d1, d2, d3, e0, e1, e2, e3⟩ := four_of HV.out.dat.res
      go_wp2
      obtain ⟨q0, q1, q2, q3⟩ := put4_cells0 HV.out.dat.res (.int .i64 zk) (.string zs) (.int .i64 zm) (.slice za zkk.length zc)
      exact bodyPost_ret (v := (A.node zk zs zm za zc zkk).val) (by simp [results, Tryz.results18, go_sem, q0, q1, q2, q3, A.val]) rfl (DPost.base HB0.out ((HV.out.dat.less (by omega)).fin HV.out.mine (by have h1 := HYE.out; have h2 := HZC.out; simp only [A.erase, cnt] at h1 h2 ⊢; omega) _ _ _ _))
theorem sSpoil_any : ∀ N, N ≤ 900 → SpoilOk N
 | 0, _ => fun x _ _ _ _ _ _ hx => by have := cnt_one x.erase; omega
 | N + 1, h => spoil_step N h (sSpoil_any N (by omega))
end Go.Proofs.YtjmjmdmnejnlbaaGreatDoor
