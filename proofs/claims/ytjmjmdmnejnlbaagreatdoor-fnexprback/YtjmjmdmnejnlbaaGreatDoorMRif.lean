/-
  CONTRACT of the program's reader's block.
  CONTRACT of the program's reader's stmt: while.
  CONTRACT of the program's reader's stmt: a short statement and its sign.
  CONTRACT of the program's reader's stmt: if.
-/
import Derived.Test.YtjmjmdmnejnlbaaGreatDoorMRcond
import Derived.Deep.RegionLaw
import Derived.Deep.AppendLies
import Derived.Test.YtjmjmdmnejnlbaaGreatDoorMRput
namespace Go.Proofs.YtjmjmdmnejnlbaaGreatDoor
open Go.RowKit
open Pl

def IStmt (rb : Nat) (a : Option Addr) (cap : Nat) (ws : List W3) (sz : Nat) (F f : Nat) : Prop := ∀ (i : Nat) (w : World), 3 * (ws.length - i) + 1 ≤ f → Rd w rb a cap ws i sz →
 Calls Tryz.prog 73 #[.pointer (some ⟨rb, 0, none⟩)] w (Post rb a cap ws sz w (mStmt ws F f i))
def IBlock (rb : Nat) (a : Option Addr) (cap : Nat) (ws : List W3) (sz : Nat) (F f : Nat) : Prop := ∀ (i : Nat) (w : World), 3 * (ws.length - i) + 2 ≤ f → Rd w rb a cap ws i sz →
 Calls Tryz.prog 102 #[.pointer (some ⟨rb, 0, none⟩)] w (Post rb a cap ws sz w (mBlock ws F f i))
set_option maxRecDepth 100000 in
set_option maxHeartbeats 8000000 in
theorem block_step {rb : Nat} {a : Option Addr} {cap : Nat} {ws : List W3} {sz F f : Nat} (he : Env ws) (hS : ∀ g, g ≤ f → IStmt rb a cap ws sz F g) : IBlock rb a cap ws sz F (f + 1) := by
 intro i w hf h
 have hfew := he.few
 have HA := mkHid h
 have hrb := h.lt
 have HO := mkHid hS
 by_cases h0 : isW ws i ⟨#[123]⟩ = true
 ·have hil := isW_lt h0
  rw [show mBlock ws F (f + 1) i = mList ws F f [] (i + 1) by simp only [mBlock, want]; rw [if_pos h0]]
  generalize hR : mList ws F f [] (i + 1) = R
  have HR := mkHid hR
  have T0 := mkHid (fun w h => take_yes rb a cap ws i sz ⟨#[123]⟩ w h h0)
  clear hR h hS h0 he
  obtain ⟨i0, hi0, hz0⟩ := Option.map_eq_some_iff.1 Tryz.info26
  simp only [Prod.mk.injEq] at hz0
  obtain ⟨hz1, hz2, hz3⟩ := hz0
  have HI := mkHid (show Tryz.prog.info? 26 = some i0 ∧ i0.zero = some (.agg #[.int .i64 0, .string ByteArray.empty, .int .i64 0, .slice none 0 0]) ∧ i0.size = 4 ∧ i0.bytes = 56 from ⟨hi0, hz1, hz2, hz3⟩)
  clear hi0 hz1 hz2 hz3
  go_enter Tryz.func102, Tryz.ntmps102
  go_wp2_with fail
  refine (T0.out _ (HA.out.alloc _)).mono ?_
  rintro e w1 ⟨rfl, r1, s1⟩
  have hG := Stem.start (s1.at (heap_alloc_new w _) (by omega)) r1 (((Step.refl rb w).alloc _).trans s1) hrb 30 ⟨#[]⟩
  have HG := mkHid hG
  clear hG r1 s1 T0 HA
  go_wp2
  go_loopw [] (fun w' => ∃ (els : List A) (sa : Option Addr) (sc j g : Nat), Stem rb a cap ws sz w w1.heap.size 30 ⟨#[]⟩ w' els sa sc j ∧ g ≤ f ∧ 3 * (ws.length - j) + 2 ≤ g ∧ els.length ≤ j ∧ j ≤ ws.length ∧ mList ws F g (erases els) j = R) (fun w' => ws.length - posOf rb w')
  case atStart => exact ⟨[], none, 0, i + 1, f, HG.out, Nat.le_refl _, by omega, Nat.zero_le _, by omega, HR.out⟩
  case round =>
   obtain ⟨els, sa, sc, j, g, hG, hgf, hfu, hej, hjl, hm⟩ := hrel
   have G0 := mkHid hG
   have M0 := mkHid hm
   have hpos := hG.rd.pos
   have HPo := mkHid hpos
   clear hG hm hpos HG HR
   obtain ⟨g1, rfl⟩ : ∃ g1, g = g1 + 1 := ⟨g - 1, by omega⟩
   by_cases hw : isW ws j ⟨#[125]⟩ = true
   ·have HR : Hid (R = .ok (.node 30 nil_ 0 (erases els)) (j + 1)) := by
      have := M0.out
      simp only [mList] at this
      rw [if_pos hw] at this
      exact this.symm
    have T1 := mkHid (fun w h => has_yes rb a cap ws j sz ⟨#[125]⟩ w h hw)
    clear M0 hw
    go_wp2_with fail
    refine (T1.out _ G0.out.rd).mono ?_
    rintro e w2 ⟨rfl, r2, s2⟩
    have G2 := mkHid (G0.out.on s2 r2)
    clear r2 s2 T1
    obtain ⟨d0, d1, d2, d3, _⟩ := four_of G2.out.here
    obtain ⟨c0, c1, c2, c3, f0, f1, f2, f3⟩ := four_of G2.out.res
    go_wp2
    obtain ⟨q0, q1, q2, q3⟩ := put4_cells0 G2.out.res (.int .i64 30) (.string ⟨#[]⟩) (.int .i64 0) (.slice sa els.length sc)
    obtain ⟨t1, t2⟩ := G2.out.tree (by decide) (by unfold maxLen; omega)
    exact bodyPost_ret (v := (A.node 30 ⟨#[]⟩ 0 sa sc els).val) (by simp [results, Tryz.results102, go_sem, q0, q1, q2, q3, A.val]) rfl (by rw [HR.out]; exact end_tree _ _ _ _ _ G2.out.rd hrb G2.out.step (by simp only [A.erase]; rfl) t1 t2 (by omega))
   ·have hm : (mStmt ws F g1 j).then_ (fun x j => mList ws F g1 (erases els ++ [x]) j) = R := by
      have := M0.out
      simp only [mList] at this
      rw [if_neg hw] at this
      exact this
    have hO1 := fun w h => HO.out g1 (by omega) j w (by omega) h
    have ha := (advS ws F g1).1 j
    have T1 := mkHid (fun w h => has_no rb a cap ws j sz ⟨#[125]⟩ w h (by simpa using hw))
    generalize mStmt ws F g1 j = r at hm hO1 ha
    have H1 := mkHid hO1
    clear hO1 M0 hw
    go_wp2_with fail
    refine (T1.out _ G0.out.rd).mono ?_
    rintro e w2 ⟨rfl, r2, s2⟩
    have G2 := mkHid (G0.out.on s2 r2)
    clear r2 s2 T1
    obtain ⟨d0, d1, d2, d3, e0, e1, e2, e3⟩ := four_of G2.out.here
    have hp2 := G2.out.plt
    cases r with
    | no p =>
      have HR : Hid (R = .no p) := hm.symm
      clear hm ha
      go_wp2
      refine wp_region_any (by kernel_rfl) ?_
      change wpAny _ _ _ _ _ _ _ (World.drew _)
      refine wpAny_take (i := 0) (v := ?v1) rfl (by kernel_rfl) (by kernel_rfl) (by kernel_rfl) (fun _ _ _ h => h) (Or.inl ⟨by rfl, ?hy1⟩) ?rest1
      case hy1 => intro w; go_simp; try with_reducible rfl
      refine wpAny_take (i := 2) (v := ?v2) rfl (by kernel_rfl) (by kernel_rfl) (by kernel_rfl) (fun _ _ _ h => h) (Or.inl ⟨by rfl, ?hy2⟩) ?rest2
      case hy2 => intro w; go_simp; try with_reducible rfl
      refine wpAny_ready (rs := [1, 3]) (by kernel_rfl) (by simp) ?_
      refine AllReady.cons rfl (fun K hK => ?_) ?_
      ·go_simp
       refine hK _ _ ?_
       clear hK K
       refine wpAny_ready (rs := [3]) (by kernel_rfl) (by simp) ?_
       refine AllReady.cons rfl (fun K hK => ?_) AllReady.nil
       go_simp
       refine (H1.out _ G2.out.rd.drew).mono ?_
       rintro e w3 ⟨⟨m, rfl⟩, r3, s3⟩
       exact ⟨rfl, by rw [HR.out]; exact ⟨⟨m, rfl⟩, r3, G2.out.step.drew.trans s3⟩⟩
      ·refine AllReady.cons rfl (fun K hK => ?_) AllReady.nil
       go_simp
       refine (H1.out _ G2.out.rd.drew).mono ?_
       rintro e w3 ⟨⟨m, rfl⟩, r3, s3⟩
       exact ⟨rfl, by rw [HR.out]; exact ⟨⟨m, rfl⟩, r3, G2.out.step.drew.trans s3⟩⟩
    | ok y j3 =>
      obtain ⟨hj3, hj3l⟩ := ha y j3 rfl
      have HR : Hid (mList ws F g1 (erases els ++ [y]) j3 = R) := hm
      clear hm ha
      go_wp2
      go_region_law (first | (go_simp; go_at_call 73; refine (H1.out _ G2.out.rd.drew).mono ?_; rintro e w3 ⟨z, rfl, hz3, hsz, hnz, r3, s3⟩; obtain ⟨zk, zs, zm, za, zc, zkk⟩ := z; simp only [A.val]; have T3 := G2.out.drew.on s3 r3; obtain ⟨b0, b1, b2, b3, f0, f1, f2, f3⟩ := four_of T3.here; have hp3 := T3.plt; have a3 := ((T3.on ((Step.refl rb w3).alloc (.cells #[.int .i64 zk, .string zs, .int .i64 zm, .slice za zkk.length zc] 26)) (r3.alloc _)) |> fun q => (four_of q.here).2.2.2.1); have OW := mkHid (T3.own.alloc (.cells #[.int .i64 zk, .string zs, .int .i64 zm, .slice za zkk.length zc] 26)); have HT3 := mkHid T3; have HS3 := mkHid s3; have HZ := mkHid hz3; have HSZ := mkHid hsz; have HNZ := mkHid hnz; have HR3 := mkHid r3; clear T3 s3 hz3 hsz hnz r3) | (refine step_append_lies _ (by rfl) _ _ _ (by rfl) (w1.heap.size + 1) 26 i0 _ 4 56 Tryz.underlying24 HI.out.1 HI.out.2.1 HI.out.2.2.1 HI.out.2.2.2 rfl (by decide) _ _ _ (by rfl) OW.out ⟨w3.heap.size, 0, none⟩ 1 1 [.int .i64 zk, .string zs, .int .i64 zm, .slice za zkk.length zc] (by rfl) (by rfl) (World.news_of_block (heap_alloc_new w3 _)) (fun u hu => by simp at hu; rcases hu with rfl | rfl | rfl | rfl <;> rfl) (by decide) (by unfold maxLen; omega) (by omega) (by simp; omega) (w3.heap.size + 1) (by simp) ?_; intro g c2 w4 hown hgrow hat hlt4; have GP := mkHid (Stem.push (x := .node zk zs zm za zc zkk) G2.out.drew HS3.out HR3.out HSZ.out HNZ.out _ hown hgrow hat); have k3 : w4.cell? ⟨w1.heap.size, 3, none⟩ = some (.slice sa els.length sc) := (hgrow.cell_far ⟨w1.heap.size, 3, none⟩ (by simp; omega) (fun e => absurd (OW.out.lt _ e.symm).1 (Nat.not_succ_le_self _))).trans a3; have kf : w4.frozen? ⟨w1.heap.size, 3, none⟩ = false := (hgrow.frozen_far ⟨w1.heap.size, 3, none⟩ (by simp; omega) (fun e => absurd (OW.out.lt _ e.symm).1 (Nat.not_succ_le_self _))).trans ((World.frozen?_of_block (Lib.alloc_old w3 _ _ hp3)).trans f3); clear hown hgrow hat))
      all_goals
       go_wp2
       go_roundw
       case rel => exact ⟨_, _, _, j3, g1, GP.out, by omega, by omega, by simp; omega, hj3l, by rw [erases_append]; simp only [erases]; rw [HZ.out]; exact HR.out⟩
       case measure => rw [HPo.out]; exact Nat.lt_of_le_of_lt (Nat.le_of_eq (congrArg (fun q => ws.length - q) GP.out.rd.pos)) (by omega)
 ·rw [show mBlock ws F (f + 1) i = .no i by simp only [mBlock, want]; rw [if_neg h0]]
  have T0 := mkHid (fun w h => take_no rb a cap ws i sz ⟨#[123]⟩ w h (by simpa using h0))
  clear h hS h0 he
  go_enter Tryz.func102, Tryz.ntmps102
  go_wp2_with fail
  refine (T0.out _ (HA.out.alloc _)).mono ?_
  rintro e w1 ⟨⟨m, rfl⟩, r1, s1⟩
  exact ⟨rfl, ⟨m, rfl⟩, r1, ((Step.refl rb w).alloc _).trans s1⟩
end Go.Proofs.YtjmjmdmnejnlbaaGreatDoor
namespace Go.Proofs.YtjmjmdmnejnlbaaGreatDoor
open Go.RowKit
open Pl

set_option maxRecDepth 100000 in
set_option maxHeartbeats 8000000 in
theorem stmt_while {rb : Nat} {a : Option Addr} {cap : Nat} {ws : List W3} {sz F f : Nat} (hC : ICond rb a cap ws sz F) (hB : IBlock rb a cap ws sz F f) (i : Nat) (w : World) (hf : 3 * (ws.length - i) + 1 ≤ f + 1) (h : Rd w rb a cap ws i sz) (n0 : isW ws i ⟨#[105, 102]⟩ = false) (h1 : isW ws i ⟨#[119, 104, 105, 108, 101]⟩ = true) :
    Calls Tryz.prog 73 #[.pointer (some ⟨rb, 0, none⟩)] w (Post rb a cap ws sz w (mStmt ws F (f + 1) i)) := by
 have hil := isW_lt h1
 rw [show mStmt ws F (f + 1) i = (mCond ws F (i + 1)).then_ (fun x j => (mBlock ws F f j).then_ fun y j2 => .ok (.node 25 nil_ 0 [x, y]) j2) by simp only [mStmt]; rw [if_neg (by rw [n0]; decide), if_pos h1]]
 have HA := mkHid h
 have hrb := h.lt
 have hO1 := fun w h => hC (i + 1) w h
 have ha : ∀ t j, mCond ws F (i + 1) = .ok t j → i + 1 < j ∧ j ≤ ws.length := fun t j h => adv_cond h
 generalize mCond ws F (i + 1) = r at hO1 ha ⊢
 have H1 := mkHid hO1
 have HB := mkHid hB
 generalize hR : r.then_ (fun x j => (mBlock ws F f j).then_ fun y j2 => .ok (.node 25 nil_ 0 [x, y]) j2) = R
 have HR := mkHid hR
 clear hR hO1 hB hC
 have C0 := mkHid (fun w h => has_no rb a cap ws i sz ⟨#[105, 102]⟩ w h n0)
 have C1 := mkHid (fun w h => has_yes rb a cap ws i sz ⟨#[119, 104, 105, 108, 101]⟩ w h h1)
 clear h h1 n0
 go_enter Tryz.func73, Tryz.ntmps73
 go_wp2_with fail
 refine (C0.out _ (HA.out.alloc _)).mono ?_
 rintro e w1 ⟨rfl, r, s⟩
 have R1 := mkHid r
 have S1 := mkHid (((Step.refl rb w).alloc _).trans s)
 have P1 := mkHid (s.at (heap_alloc_new w _) (by omega))
 clear r s
 go_wp2_with fail
 refine (C1.out _ R1.out).mono ?_
 rintro e w2 ⟨rfl, r, s⟩
 have R2 := mkHid r
 have S2 := mkHid (S1.out.trans s)
 have P2 := mkHid (s.at P1.out (by omega))
 clear r s
 go_wp2_with fail
 refine (H1.out _ R2.out).mono ?_
 intro e w3 hp
 cases r with
 | no p =>
   obtain ⟨⟨m, rfl⟩, r2, s2⟩ := hp
   exact ⟨rfl, by rw [← HR.out]; exact ⟨⟨m, rfl⟩, r2, S2.out.trans s2⟩⟩
 | ok t j =>
   obtain ⟨hij, hjl⟩ := ha t j rfl
   obtain ⟨x, rfl, hx, hsx, hnx, r, s⟩ := hp
   have z2 : w.heap.size < w2.heap.size := (Array.getElem?_eq_some_iff.1 P2.out).1
   have HR2 : Hid ((mBlock ws F f j).then_ (fun y j2 => .ok (.node 25 nil_ 0 [t, y]) j2) = R) := HR.out
   have hO2 := fun w h => HB.out j w (by omega) h
   generalize mBlock ws F f j = r2 at hO2 HR2
   have H2 := mkHid hO2
   have Z23 := mkHid s.size
   have R3 := mkHid r
   have S3 := mkHid (S2.out.trans s)
   have P3 := mkHid (s.at P2.out (by omega))
   have HS := mkHid hsx
   have HN := mkHid hnx
   have HX := mkHid hx
   clear hO2 HR ha r s hsx hnx hx
   go_wp2_with fail
   refine (H2.out _ R3.out).mono ?_
   intro e w4 hp
   cases r2 with
   | no p =>
     obtain ⟨⟨m, rfl⟩, r2, s2⟩ := hp
     exact ⟨rfl, by rw [← HR2.out]; exact ⟨⟨m, rfl⟩, r2, S3.out.trans s2⟩⟩
   | ok t2 j2 =>
     obtain ⟨y, rfl, hy, hsy, hny, r, s⟩ := hp
     have lx := Sits.lt x HS.out
     have HSx := mkHid (s.sits HS.out (fun q hq => by have := HN.out.2 q hq; have := R2.out.lt; omega))
     have HN2 : Hid (NewL w2.heap.size [x, y]) := NewL.snoc (xs := [x]) (n1 := w3.heap.size) (NewL.one HN.out) (fun b hb => lx b (by rwa [feet_one] at hb)) hny (Z23.out)
     have R4 := mkHid r
     have S4 := mkHid (S3.out.trans s)
     have P4 := mkHid (s.at P3.out (by omega))
     have HSy := mkHid hsy
     have HY := mkHid hy
     clear r s hsy hny hy lx
     obtain ⟨xk, xs, xm, xa, xc, xkk⟩ := x
     obtain ⟨yk, ys, ym, ya, yc, ykk⟩ := y
     obtain ⟨c0, c1, c2, c3, f0, f1, f2, f3⟩ := four_of P4.out
     have z4 : w.heap.size < w4.heap.size := (Array.getElem?_eq_some_iff.1 P4.out).1
     simp only [A.val]
     go_wp2
     obtain ⟨q0, q1, q2, q3⟩ := put4_cells P4.out (.int .i64 25) (.string ⟨#[]⟩) (.int .i64 0) (.slice (some ⟨w4.heap.size, 0, none⟩) 2 2) (.cells #[.int .i64 xk, .string xs, .int .i64 xm, .slice xa xkk.length xc, .int .i64 yk, .string ys, .int .i64 ym, .slice ya ykk.length yc] 26)
     refine bodyPost_ret (v := (A.node 25 ⟨#[]⟩ 0 (some ⟨w4.heap.size, 0, none⟩) 2 [.node xk xs xm xa xc xkk, .node yk ys ym ya yc ykk]).val) (by simp [results, Tryz.results73, go_sem, q0, q1, q2, q3, A.val]) rfl ?_
     have hE := end_list 25 0 ⟨#[]⟩ [.node xk xs xm xa xc xkk, .node yk ys ym ya yc ykk] _ 2 P4.out R4.out hrb S4.out ⟨HSx.out, HSy.out, trivial⟩ HN2.out z2 (by simp [maxLen]) rfl (by decide)
     have he : erases [A.node xk xs xm xa xc xkk, .node yk ys ym ya yc ykk] = [t, t2] := by simp only [erases]; rw [HX.out, HY.out]
     rw [he] at hE
     rw [← HR2.out]
     exact hE
end Go.Proofs.YtjmjmdmnejnlbaaGreatDoor
namespace Go.Proofs.YtjmjmdmnejnlbaaGreatDoor
open Go.RowKit
open Pl

set_option maxRecDepth 100000 in
set_option maxHeartbeats 8000000 in
theorem stmt_short {rb : Nat} {a : Option Addr} {cap : Nat} {ws : List W3} {sz F f : Nat} (hS : IShort rb a cap ws sz F) (i : Nat) (w : World) (h : Rd w rb a cap ws i sz) (n0 : isW ws i ⟨#[105, 102]⟩ = false) (n1 : isW ws i ⟨#[119, 104, 105, 108, 101]⟩ = false) (n2 : isW ws i ⟨#[102, 111, 114]⟩ = false) :
    Calls Tryz.prog 73 #[.pointer (some ⟨rb, 0, none⟩)] w (Post rb a cap ws sz w (mStmt ws F (f + 1) i)) := by
 rw [show mStmt ws F (f + 1) i = (mShort ws F i).then_ (fun x j => want ws j ⟨#[59]⟩ (.ok x (j + 1))) by simp only [mStmt]; rw [if_neg (by rw [n0]; decide), if_neg (by rw [n1]; decide), if_neg (by rw [n2]; decide)]]
 have HA := mkHid h
 have hrb := h.lt
 have hO1 := fun w h => hS i w h
 generalize mShort ws F i = r at hO1 ⊢
 have H1 := mkHid hO1
 generalize hR : r.then_ (fun x j => want ws j ⟨#[59]⟩ (.ok x (j + 1))) = R
 have HR := mkHid hR
 clear hR hO1 hS
 have C0 := mkHid (fun w h => has_no rb a cap ws i sz ⟨#[105, 102]⟩ w h n0)
 have C1 := mkHid (fun w h => has_no rb a cap ws i sz ⟨#[119, 104, 105, 108, 101]⟩ w h n1)
 have C2 := mkHid (fun w h => has_no rb a cap ws i sz ⟨#[102, 111, 114]⟩ w h n2)
 clear h n0 n1 n2
 go_enter Tryz.func73, Tryz.ntmps73
 go_wp2_with fail
 refine (C0.out _ (HA.out.alloc _)).mono ?_
 rintro e w1 ⟨rfl, r, s⟩
 have R1 := mkHid r
 have S1 := mkHid (((Step.refl rb w).alloc _).trans s)
 have P1 := mkHid (s.at (heap_alloc_new w _) (by omega))
 clear r s
 go_wp2_with fail
 refine (C1.out _ R1.out).mono ?_
 rintro e w2 ⟨rfl, r, s⟩
 have R2 := mkHid r
 have S2 := mkHid (S1.out.trans s)
 have P2 := mkHid (s.at P1.out (by omega))
 clear r s
 go_wp2_with fail
 refine (C2.out _ R2.out).mono ?_
 rintro e w3 ⟨rfl, r, s⟩
 have R3 := mkHid r
 have S3 := mkHid (S2.out.trans s)
 have P3 := mkHid (s.at P2.out (by omega))
 clear r s
 go_wp2_with fail
 refine (H1.out _ R3.out).mono ?_
 intro e w4 hp
 cases r with
 | no p =>
   obtain ⟨⟨m, rfl⟩, r2, s2⟩ := hp
   exact ⟨rfl, by rw [← HR.out]; exact ⟨⟨m, rfl⟩, r2, S3.out.trans s2⟩⟩
 | ok t j =>
   obtain ⟨x, rfl, ht, hsx, hnx, r, s⟩ := hp
   have R4 := mkHid r
   have S4 := mkHid (S3.out.trans s)
   have P4 := mkHid (s.at P3.out (by omega))
   clear r s
   have z2 : w.heap.size < w3.heap.size := (Array.getElem?_eq_some_iff.1 P3.out).1
   have z3 : w.heap.size < w4.heap.size := (Array.getElem?_eq_some_iff.1 P4.out).1
   have hsx' := ((Step.refl rb w4).alloc (.cells x.cells.toArray 26)).sits hsx (fun q hq => by have := hnx.2 q hq; have := R3.out.lt; omega)
   obtain ⟨xk, xs, xm, xa, xc, xkk⟩ := x
   simp only [A.cells] at hsx'
   have HS := mkHid hsx'
   have HN := mkHid hnx
   have HT := mkHid ht
   clear hsx' hsx hnx ht
   simp only [A.val]
   by_cases hw : isW ws j ⟨#[59]⟩ = true
   ·have HQ := mkHid (fun w h => take_yes rb a cap ws j sz ⟨#[59]⟩ w h hw)
    have HM : Hid (R = .ok t (j + 1)) := by
     show _ = _
     rw [← HR.out]
     simp only [Res.then_, want]
     rw [if_pos hw]
    clear hw HR
    go_wp2_with fail
    refine (HQ.out _ (R4.out.alloc _)).mono ?_
    rintro e w5 ⟨rfl, r, s⟩
    have P5 := mkHid (s.at ((Lib.alloc_old w4 _ _ z3).trans P4.out) (by omega))
    have L5 := s.at (heap_alloc_new w4 _) (by have := R4.out.lt; omega)
    have HS5 := mkHid (s.sits HS.out (fun q hq => by have := HN.out.2 q hq; have := R3.out.lt; omega))
    have S5 := mkHid ((S4.out.alloc _).trans s)
    have R5 := mkHid r
    clear r s
    obtain ⟨d0, d1, d2, d3, _⟩ := four_of L5
    obtain ⟨c0, c1, c2, c3, f0, f1, f2, f3⟩ := four_of P5.out
    clear L5
    go_wp2
    obtain ⟨q0, q1, q2, q3⟩ := put4_cells0 P5.out (.int .i64 xk) (.string xs) (.int .i64 xm) (.slice xa xkk.length xc)
    exact bodyPost_ret (v := (A.node xk xs xm xa xc xkk).val) (by simp [results, Tryz.results73, go_sem, q0, q1, q2, q3, A.val]) rfl (by rw [HM.out]; exact end_tree _ _ _ _ _ R5.out hrb S5.out HT.out HS5.out HN.out z2)
   ·have HQ := mkHid (fun w h => take_no rb a cap ws j sz ⟨#[59]⟩ w h (by simpa using hw))
    have HM : Hid (R = .no j) := by
     show _ = _
     rw [← HR.out]
     simp only [Res.then_, want]
     rw [if_neg hw]
    clear hw HR
    go_wp2_with fail
    refine (HQ.out _ (R4.out.alloc _)).mono ?_
    rintro e w5 ⟨⟨m, rfl⟩, r, s⟩
    exact ⟨rfl, by rw [HM.out]; exact ⟨⟨m, rfl⟩, r, (S4.out.alloc _).trans s⟩⟩
end Go.Proofs.YtjmjmdmnejnlbaaGreatDoor
namespace Go.Proofs.YtjmjmdmnejnlbaaGreatDoor
open Go.RowKit
open Pl

@[reducible] def put8 (w : World) (p : Nat) (v0 v1 v2 v3 : Value) : World := (((w.setCell ⟨p, 8, none⟩ v0).setCell ⟨p, 9, none⟩ v1).setCell ⟨p, 10, none⟩ v2).setCell ⟨p, 11, none⟩ v3
theorem put8_at {w : World} {p : Nat} {a0 a1 a2 a3 a4 a5 a6 a7 u0 u1 u2 u3 : Value} (h : w.heap[p]? = some (.cells #[a0, a1, a2, a3, a4, a5, a6, a7, u0, u1, u2, u3] 26 (0, 0))) (v0 v1 v2 v3 : Value) : (put8 w p v0 v1 v2 v3).heap[p]? = some (.cells #[a0, a1, a2, a3, a4, a5, a6, a7, v0, v1, v2, v3] 26 (0, 0)) := by
 rw [heap_setCell_same _ p 11 _ 26 _ (heap_setCell_same _ p 10 _ 26 _ (heap_setCell_same _ p 9 _ 26 _ (heap_setCell_same _ p 8 _ 26 _ h)))]
 rfl
theorem put8_other {w : World} {p k : Nat} (v0 v1 v2 v3 : Value) (h : k ≠ p) : (put8 w p v0 v1 v2 v3).heap[k]? = w.heap[k]? := by
 rw [Below.heap_setCell _ _ _ _ h, Below.heap_setCell _ _ _ _ h, Below.heap_setCell _ _ _ _ h, Below.heap_setCell _ _ _ _ h]
theorem put8_step {rb : Nat} {a b : World} (h : Step rb a b) {p : Nat} (hp : a.heap.size ≤ p) (v0 v1 v2 v3 : Value) : Step rb a (put8 b p v0 v1 v2 v3) :=
 (((h.setCell (p := ⟨p, 8, none⟩) (.inl hp) _).setCell (p := ⟨p, 9, none⟩) (.inl hp) _).setCell (p := ⟨p, 10, none⟩) (.inl hp) _).setCell (p := ⟨p, 11, none⟩) (.inl hp) _
theorem put8_rd {w : World} {rb : Nat} {a : Option Addr} {cap : Nat} {ws : List W3} {i sz : Nat} (h : Rd w rb a cap ws i sz) {p : Nat} (hp : rb < p) (v0 v1 v2 v3 : Value) : Rd (put8 w p v0 v1 v2 v3) rb a cap ws i sz :=
 (((h.setCell (p := ⟨p, 8, none⟩) hp _).setCell (p := ⟨p, 9, none⟩) hp _).setCell (p := ⟨p, 10, none⟩) hp _).setCell (p := ⟨p, 11, none⟩) hp _
theorem twelve_of {w : World} {p : Nat} {a0 a1 a2 a3 a4 a5 a6 a7 u0 u1 u2 u3 : Value} (h : w.heap[p]? = some (.cells #[a0, a1, a2, a3, a4, a5, a6, a7, u0, u1, u2, u3] 26 (0, 0))) :
    w.cell? ⟨p, 8, none⟩ = some u0 ∧ w.cell? ⟨p, 9, none⟩ = some u1 ∧ w.cell? ⟨p, 10, none⟩ = some u2 ∧ w.cell? ⟨p, 11, none⟩ = some u3 ∧ w.frozen? ⟨p, 8, none⟩ = false ∧ w.frozen? ⟨p, 9, none⟩ = false ∧ w.frozen? ⟨p, 10, none⟩ = false ∧ w.frozen? ⟨p, 11, none⟩ = false :=
 ⟨by rw [Lib.cell_of_heap h]; rfl, by rw [Lib.cell_of_heap h]; rfl, by rw [Lib.cell_of_heap h]; rfl, by rw [Lib.cell_of_heap h]; rfl, Lib.frozen_of_heap h 8, Lib.frozen_of_heap h 9, Lib.frozen_of_heap h 10, Lib.frozen_of_heap h 11⟩
set_option maxRecDepth 100000 in
set_option maxHeartbeats 8000000 in
theorem stmt_if {rb : Nat} {a : Option Addr} {cap : Nat} {ws : List W3} {sz F f : Nat} (hC : ICond rb a cap ws sz F) (hB : IBlock rb a cap ws sz F f) (i : Nat) (w : World) (hf : 3 * (ws.length - i) + 1 ≤ f + 1) (h : Rd w rb a cap ws i sz) (h1 : isW ws i ⟨#[105, 102]⟩ = true) :
    Calls Tryz.prog 73 #[.pointer (some ⟨rb, 0, none⟩)] w (Post rb a cap ws sz w (mStmt ws F (f + 1) i)) := by
 have hil := isW_lt h1
 rw [show mStmt ws F (f + 1) i = (mCond ws F (i + 1)).then_ (fun x j => (mBlock ws F f j).then_ fun y j2 => if isW ws j2 ⟨#[101, 108, 115, 101]⟩ then (mBlock ws F f (j2 + 1)).then_ fun z j3 => .ok (.node 24 nil_ 0 [x, y, z]) j3 else .ok (.node 24 nil_ 0 [x, y, .node 30 nil_ 0 []]) j2) by simp only [mStmt]; rw [if_pos h1]]
 have HA := mkHid h
 have hrb := h.lt
 have hO1 := fun w h => hC (i + 1) w h
 have ha : ∀ t j, mCond ws F (i + 1) = .ok t j → i + 1 < j ∧ j ≤ ws.length := fun t j h => adv_cond h
 generalize mCond ws F (i + 1) = r at hO1 ha ⊢
 have H1 := mkHid hO1
 have HB := mkHid hB
 generalize hR : r.then_ (fun x j => (mBlock ws F f j).then_ fun y j2 => if isW ws j2 ⟨#[101, 108, 115, 101]⟩ then (mBlock ws F f (j2 + 1)).then_ fun z j3 => .ok (.node 24 nil_ 0 [x, y, z]) j3 else .ok (.node 24 nil_ 0 [x, y, .node 30 nil_ 0 []]) j2) = R
 have HR := mkHid hR
 clear hR hO1 hB hC
 have C0 := mkHid (fun w h => has_yes rb a cap ws i sz ⟨#[105, 102]⟩ w h h1)
 clear h h1
 go_enter Tryz.func73, Tryz.ntmps73
 go_wp2_with fail
 refine (C0.out _ (HA.out.alloc _)).mono ?_
 rintro e w1 ⟨rfl, r, s⟩
 have R1 := mkHid r
 have S1 := mkHid (((Step.refl rb w).alloc _).trans s)
 have P1 := mkHid (s.at (heap_alloc_new w _) (by omega))
 clear r s
 go_wp2_with fail
 refine (H1.out _ R1.out).mono ?_
 intro e w2 hp
 cases r with
 | no p =>
   obtain ⟨⟨m, rfl⟩, r2, s2⟩ := hp
   exact ⟨rfl, by rw [← HR.out]; exact ⟨⟨m, rfl⟩, r2, S1.out.trans s2⟩⟩
 | ok t j =>
   obtain ⟨hij, hjl⟩ := ha t j rfl
   obtain ⟨x, rfl, hx, hsx, hnx, r, s⟩ := hp
   have z1 : w.heap.size < w1.heap.size := (Array.getElem?_eq_some_iff.1 P1.out).1
   have HR2 : Hid ((mBlock ws F f j).then_ (fun y j2 => if isW ws j2 ⟨#[101, 108, 115, 101]⟩ then (mBlock ws F f (j2 + 1)).then_ fun z j3 => .ok (.node 24 nil_ 0 [t, y, z]) j3 else .ok (.node 24 nil_ 0 [t, y, .node 30 nil_ 0 []]) j2) = R) := HR.out
   have hO2 := fun w h => HB.out j w (by omega) h
   have ha2 := (advS ws F f).2.1 j
   generalize mBlock ws F f j = r2 at hO2 HR2 ha2
   have H2 := mkHid hO2
   have Z12 := mkHid s.size
   have R2 := mkHid r
   have S2 := mkHid (S1.out.trans s)
   have P2 := mkHid (s.at P1.out (by omega))
   have HS := mkHid hsx
   have HN := mkHid hnx
   have HX := mkHid hx
   clear hO2 HR ha r s hsx hnx hx
   go_wp2_with fail
   refine (H2.out _ R2.out).mono ?_
   intro e w3 hp
   cases r2 with
   | no p =>
     obtain ⟨⟨m, rfl⟩, r2, s2⟩ := hp
     exact ⟨rfl, by rw [← HR2.out]; exact ⟨⟨m, rfl⟩, r2, S2.out.trans s2⟩⟩
   | ok t2 j2 =>
     obtain ⟨hij2, hjl2⟩ := ha2 t2 j2 rfl
     obtain ⟨y, rfl, hy, hsy, hny, r, s⟩ := hp
     have lx := Sits.lt x HS.out
     have ly := Sits.lt y hsy
     have HSx := mkHid (s.sits HS.out (fun q hq => by have := HN.out.2 q hq; have := R1.out.lt; omega))
     have HN2 : Hid (NewL w1.heap.size [x, y]) := NewL.snoc (xs := [x]) (n1 := w2.heap.size) (NewL.one HN.out) (fun b hb => lx b (by rwa [feet_one] at hb)) hny (Z12.out)
     have R3 := mkHid r
     have S3 := mkHid (S2.out.trans s)
     have P3 := mkHid (s.at P2.out (by omega))
     have HSy := mkHid hsy
     have HY := mkHid hy
     have HL3 : Hid (∀ q ∈ feet [x, y], q < w3.heap.size) := fun q hq => by
      have hq' : q ∈ x.foot ∨ q ∈ y.foot := by simpa [feet] using hq
      rcases hq' with h | h
      ·exact Nat.lt_of_lt_of_le (lx q h) s.size
      ·exact ly q h
     have z13 : w1.heap.size ≤ w3.heap.size := Nat.le_trans Z12.out s.size
     clear r s hsy hny hy lx ly ha2
     obtain ⟨xk, xs, xm, xa, xc, xkk⟩ := x
     obtain ⟨yk, ys, ym, ya, yc, ykk⟩ := y
     simp only [A.val]
     have g3 : rb < w3.heap.size := R3.out.lt
     have z3 : w.heap.size < w3.heap.size := by omega
     by_cases he : isW ws j2 ⟨#[101, 108, 115, 101]⟩ = true
     ·have TE := mkHid (fun w h => has_yes rb a cap ws j2 sz ⟨#[101, 108, 115, 101]⟩ w h he)
      have HR3 : Hid ((mBlock ws F f (j2 + 1)).then_ (fun z j3 => .ok (.node 24 nil_ 0 [t, t2, z]) j3) = R) := by
       show _ = _
       rw [← HR2.out]
       simp only [Res.then_]
       rw [if_pos he]
      have hj2 := isW_lt he
      have hO3 := fun w h => HB.out (j2 + 1) w (by omega) h
      generalize mBlock ws F f (j2 + 1) = r3 at hO3 HR3
      have H3 := mkHid hO3
      clear hO3 HR2 he
      go_wp2_with fail
      refine (TE.out _ ((R3.out.alloc _).alloc _)).mono ?_
      rintro e w4 ⟨rfl, r, s⟩
      have P4 := mkHid (s.at ((Lib.alloc_old _ _ _ (by simp; omega)).trans ((Lib.alloc_old w3 _ _ z3).trans P3.out)) (by omega))
      have L4 := mkHid (s.at (k := w3.heap.size + 1) (o := .cells #[.int .i64 24, .string ⟨#[]⟩, .int .i64 0, .slice (some ⟨w3.heap.size, 0, none⟩) 3 3] 26 (0, 0)) (by have := heap_alloc_new (w3.alloc (.cells #[.int .i64 xk, .string xs, .int .i64 xm, .slice xa xkk.length xc, .int .i64 yk, .string ys, .int .i64 ym, .slice ya ykk.length yc, .int .i64 30, .string ⟨#[]⟩, .int .i64 0, .slice none 0 0] 26)) (.cells #[.int .i64 24, .string ⟨#[]⟩, .int .i64 0, .slice (some ⟨w3.heap.size, 0, none⟩) 3 3] 26); simpa using this) (by omega))
      have B4 := mkHid (s.at (k := w3.heap.size) (o := .cells #[.int .i64 xk, .string xs, .int .i64 xm, .slice xa xkk.length xc, .int .i64 yk, .string ys, .int .i64 ym, .slice ya ykk.length yc, .int .i64 30, .string ⟨#[]⟩, .int .i64 0, .slice none 0 0] 26 (0, 0)) ((Lib.alloc_old _ _ _ (by simp)).trans (heap_alloc_new w3 (.cells #[.int .i64 xk, .string xs, .int .i64 xm, .slice xa xkk.length xc, .int .i64 yk, .string ys, .int .i64 ym, .slice ya ykk.length yc, .int .i64 30, .string ⟨#[]⟩, .int .i64 0, .slice none 0 0] 26))) (by omega))
      have V4 : Hid (∀ q ∈ feet [A.node xk xs xm xa xc xkk, .node yk ys ym ya yc ykk], w4.heap[q]? = w3.heap[q]?) := fun q hq => by
       have h1 := HL3.out q hq
       have h2 := HN2.out.2 q hq
       rw [s.block q (by simp; omega) (by simp; omega), Lib.alloc_old _ _ _ (by simp; omega), Lib.alloc_old _ _ _ h1]
      have S4 := mkHid (((S3.out.alloc _).alloc _).trans s)
      have R4 := mkHid r
      have z34 : w3.heap.size + 1 < w4.heap.size := (Array.getElem?_eq_some_iff.1 L4.out).1
      clear r s TE
      obtain ⟨d0, d1, d2, d3, e0, e1, e2, e3⟩ := four_of L4.out
      cases r3 with
      | no p =>
        go_wp2
        refine wp_region_any (by kernel_rfl) ?_
        change wpAny _ _ _ _ _ _ _ (World.drew _)
        refine wpAny_take (i := 0) (v := ?_) rfl (by kernel_rfl) (by kernel_rfl) (by kernel_rfl) (fun _ _ _ h => h) (Or.inl ⟨by rfl, ?_⟩) ?_
        rotate_left 1
        ·intro w; go_simp; try with_reducible rfl
        refine wpAny_take (i := 2) (v := ?_) rfl (by kernel_rfl) (by kernel_rfl) (by kernel_rfl) (fun _ _ _ h => h) (Or.inl ⟨by rfl, ?_⟩) ?_
        rotate_left 1
        ·intro w; go_simp; try with_reducible rfl
        refine wpAny_ready (rs := [1, 3]) (by kernel_rfl) (by simp) ?_
        refine AllReady.cons rfl (fun K hK => ?_) ?_
        ·go_simp
         refine hK _ _ ?_
         clear hK K
         refine wpAny_ready (rs := [3]) (by kernel_rfl) (by simp) ?_
         refine AllReady.cons rfl (fun K hK => ?_) AllReady.nil
         go_simp
         refine (H3.out _ R4.out.drew).mono ?_
         rintro e w5 ⟨⟨m, rfl⟩, r5, s5⟩
         exact ⟨rfl, by rw [← HR3.out]; exact ⟨⟨m, rfl⟩, r5, S4.out.drew.trans s5⟩⟩
        ·refine AllReady.cons rfl (fun K hK => ?_) AllReady.nil
         go_simp
         refine (H3.out _ R4.out.drew).mono ?_
         rintro e w5 ⟨⟨m, rfl⟩, r5, s5⟩
         exact ⟨rfl, by rw [← HR3.out]; exact ⟨⟨m, rfl⟩, r5, S4.out.drew.trans s5⟩⟩
      | ok t3 j3 =>
        go_wp2
        go_region_with (first | (go_at_call 102; refine (H3.out _ R4.out.drew).mono ?_; rintro e w5 ⟨z, rfl, hz5, hsz, hnz, r5, s5⟩; obtain ⟨zk, zs, zm, za, zc, zkk⟩ := z; simp only [A.val]; have L5 := s5.at L4.out (by omega); have B5 := s5.at B4.out (by omega); have P5 := s5.at P4.out (by omega); obtain ⟨b0, b1, b2, b3, g0, g1, g2, g3'⟩ := four_of L5; obtain ⟨h0, h1, h2, h3, k0, k1, k2, k3⟩ := twelve_of B5; have z45 : w4.heap.size ≤ w5.heap.size := s5.size; have HL5 := mkHid L5; have HB5 := mkHid B5; have HP5 := mkHid P5; have S5 := mkHid s5; have R5 := mkHid r5; have HSZ := mkHid hsz; have HNZ := mkHid hnz; have HZ := mkHid hz5; clear L5 B5 P5 s5 r5 hsz hnz hz5))
        all_goals
            have PB := put8_at HB5.out (.int .i64 zk) (.string zs) (.int .i64 zm) (.slice za zkk.length zc)
            have PP := (put8_other (w := w5) (p := w3.heap.size) (k := w.heap.size) (.int .i64 zk) (.string zs) (.int .i64 zm) (.slice za zkk.length zc) (by omega)).trans HP5.out
            obtain ⟨c0, c1, c2, c3, f0, f1, f2, f3⟩ := four_of HP5.out
            go_wp2
            obtain ⟨q0, q1, q2, q3⟩ := put4_cells0 PP (.int .i64 24) (.string ⟨#[]⟩) (.int .i64 0) (.slice (some ⟨w3.heap.size, 0, none⟩) 3 3)
            refine bodyPost_ret (v := (A.node 24 ⟨#[]⟩ 0 (some ⟨w3.heap.size, 0, none⟩) 3 [.node xk xs xm xa xc xkk, .node yk ys ym ya yc ykk, .node zk zs zm za zc zkk]).val) (by simp [results, Tryz.results73, go_sem, q0, q1, q2, q3, A.val]) rfl ?_
            have lz := Sits.lt _ HSZ.out
            have NN : NewL w1.heap.size [A.node xk xs xm xa xc xkk, .node yk ys ym ya yc ykk, .node zk zs zm za zc zkk] := NewL.snoc (xs := [.node xk xs xm xa xc xkk, .node yk ys ym ya yc ykk]) (n1 := w4.heap.size) HN2.out (fun b hb => by have := HL3.out b hb; omega) HNZ.out (by omega)
            have fs : ∀ q, q ∈ feet [A.node xk xs xm xa xc xkk, .node yk ys ym ya yc ykk, .node zk zs zm za zc zkk] → q ∈ feet [A.node xk xs xm xa xc xkk, .node yk ys ym ya yc ykk] ∨ q ∈ (A.node zk zs zm za zc zkk).foot := fun q hq => by
             have e : [A.node xk xs xm xa xc xkk, .node yk ys ym ya yc ykk, .node zk zs zm za zc zkk] = [A.node xk xs xm xa xc xkk, .node yk ys ym ya yc ykk] ++ [.node zk zs zm za zc zkk] := rfl
             rw [e, feet_append, feet_one, List.mem_append] at hq
             exact hq
            have old : ∀ q ∈ feet [A.node xk xs xm xa xc xkk, .node yk ys ym ya yc ykk], (put8 w5 w3.heap.size (.int .i64 zk) (.string zs) (.int .i64 zm) (.slice za zkk.length zc)).heap[q]? = w3.heap[q]? := fun q hq => by
             have h1 := HL3.out q hq
             have h2 := HN2.out.2 q hq
             rw [put8_other _ _ _ _ (by omega), S5.out.block q (by simp; omega) (by simp; omega)]
             exact V4.out q hq
            have SL : SitsL (put8 w5 w3.heap.size (.int .i64 zk) (.string zs) (.int .i64 zm) (.slice za zkk.length zc)) [.node xk xs xm xa xc xkk, .node yk ys ym ya yc ykk, .node zk zs zm za zc zkk] := sitsL_snoc (xs := [.node xk xs xm xa xc xkk, .node yk ys ym ya yc ykk]) (SitsL.stay (w := w3) ⟨HSx.out, HSy.out, trivial⟩ old) (Sits.stay _ (fun q hq => put8_other _ _ _ _ (by have := HNZ.out.2 q hq; simp at this; omega)) HSZ.out)
            have nn : w3.heap.size ∉ feet [A.node xk xs xm xa xc xkk, .node yk ys ym ya yc ykk, .node zk zs zm za zc zkk] := fun q => by
             rcases fs _ q with q | q
             ·have := HL3.out _ q; omega
             ·have := HNZ.out.2 _ q; simp at this; omega
            rw [← HR3.out]
            exact end_tree (n := w1.heap.size) _ _ _ _ _ (put8_rd R5.out g3 _ _ _ _) hrb (put8_step (S4.out.drew.trans S5.out) (by omega) _ _ _ _) (by rw [erase3, HX.out, HY.out, HZ.out]; rfl) (Sits.node (by decide) (by simp [maxLen]) SL PB (fun i v hv => by simpa [cellsL, A.cells] using hv)) (New.node NN z13 nn) (by omega)
     ·have TE := mkHid (fun w h => has_no rb a cap ws j2 sz ⟨#[101, 108, 115, 101]⟩ w h (by simpa using he))
      have HR3 : Hid (R = .ok (.node 24 nil_ 0 [t, t2, .node 30 nil_ 0 []]) j2) := by
       show _ = _
       rw [← HR2.out]
       simp only [Res.then_]
       rw [if_neg he]
      clear HR2 he
      go_wp2_with fail
      refine (TE.out _ ((R3.out.alloc _).alloc _)).mono ?_
      rintro e w4 ⟨rfl, r, s⟩
      have P4 := mkHid (s.at ((Lib.alloc_old _ _ _ (by simp; omega)).trans ((Lib.alloc_old w3 _ _ z3).trans P3.out)) (by omega))
      have L4 := mkHid (s.at (k := w3.heap.size + 1) (o := .cells #[.int .i64 24, .string ⟨#[]⟩, .int .i64 0, .slice (some ⟨w3.heap.size, 0, none⟩) 3 3] 26 (0, 0)) (by have := heap_alloc_new (w3.alloc (.cells #[.int .i64 xk, .string xs, .int .i64 xm, .slice xa xkk.length xc, .int .i64 yk, .string ys, .int .i64 ym, .slice ya ykk.length yc, .int .i64 30, .string ⟨#[]⟩, .int .i64 0, .slice none 0 0] 26)) (.cells #[.int .i64 24, .string ⟨#[]⟩, .int .i64 0, .slice (some ⟨w3.heap.size, 0, none⟩) 3 3] 26); simpa using this) (by omega))
      have B4 := mkHid (s.at (k := w3.heap.size) (o := .cells #[.int .i64 xk, .string xs, .int .i64 xm, .slice xa xkk.length xc, .int .i64 yk, .string ys, .int .i64 ym, .slice ya ykk.length yc, .int .i64 30, .string ⟨#[]⟩, .int .i64 0, .slice none 0 0] 26 (0, 0)) ((Lib.alloc_old _ _ _ (by simp)).trans (heap_alloc_new w3 (.cells #[.int .i64 xk, .string xs, .int .i64 xm, .slice xa xkk.length xc, .int .i64 yk, .string ys, .int .i64 ym, .slice ya ykk.length yc, .int .i64 30, .string ⟨#[]⟩, .int .i64 0, .slice none 0 0] 26))) (by omega))
      have V4 : Hid (∀ q ∈ feet [A.node xk xs xm xa xc xkk, .node yk ys ym ya yc ykk], w4.heap[q]? = w3.heap[q]?) := fun q hq => by
       have h1 := HL3.out q hq
       have h2 := HN2.out.2 q hq
       rw [s.block q (by simp; omega) (by simp; omega), Lib.alloc_old _ _ _ (by simp; omega), Lib.alloc_old _ _ _ h1]
      have S4 := mkHid (((S3.out.alloc _).alloc _).trans s)
      have R4 := mkHid r
      have z34 : w3.heap.size + 1 < w4.heap.size := (Array.getElem?_eq_some_iff.1 L4.out).1
      clear r s TE
      obtain ⟨d0, d1, d2, d3, e0, e1, e2, e3⟩ := four_of L4.out
      obtain ⟨c0, c1, c2, c3, f0, f1, f2, f3⟩ := four_of P4.out
      go_wp2
      obtain ⟨q0, q1, q2, q3⟩ := put4_cells0 P4.out (.int .i64 24) (.string ⟨#[]⟩) (.int .i64 0) (.slice (some ⟨w3.heap.size, 0, none⟩) 3 3)
      refine bodyPost_ret (v := (A.node 24 ⟨#[]⟩ 0 (some ⟨w3.heap.size, 0, none⟩) 3 [.node xk xs xm xa xc xkk, .node yk ys ym ya yc ykk, .node 30 ⟨#[]⟩ 0 none 0 []]).val) (by simp [results, Tryz.results73, go_sem, q0, q1, q2, q3, A.val]) rfl ?_
      have NN : NewL w1.heap.size [A.node xk xs xm xa xc xkk, .node yk ys ym ya yc ykk, .node 30 ⟨#[]⟩ 0 none 0 []] := NewL.snoc (xs := [.node xk xs xm xa xc xkk, .node yk ys ym ya yc ykk]) (n1 := w3.heap.size) HN2.out (fun b hb => HL3.out b hb) (New.leaf _ _ _ _ _ _) z13
      have fs : ∀ q, q ∈ feet [A.node xk xs xm xa xc xkk, .node yk ys ym ya yc ykk, .node 30 ⟨#[]⟩ 0 none 0 []] → q ∈ feet [A.node xk xs xm xa xc xkk, .node yk ys ym ya yc ykk] := fun q hq => by
       have e : [A.node xk xs xm xa xc xkk, .node yk ys ym ya yc ykk, .node 30 ⟨#[]⟩ 0 none 0 []] = [A.node xk xs xm xa xc xkk, .node yk ys ym ya yc ykk] ++ [.node 30 ⟨#[]⟩ 0 none 0 []] := rfl
       rw [e, feet_append, feet_one, List.mem_append] at hq
       rcases hq with hq | hq
       ·exact hq
       ·simp [A.foot, feet] at hq
      have SL : SitsL w4 [.node xk xs xm xa xc xkk, .node yk ys ym ya yc ykk, .node 30 ⟨#[]⟩ 0 none 0 []] := sitsL_snoc (xs := [.node xk xs xm xa xc xkk, .node yk ys ym ya yc ykk]) (SitsL.stay (w := w3) ⟨HSx.out, HSy.out, trivial⟩ V4.out) (Sits.leaf _ _ _ (by decide))
      rw [HR3.out]
      exact end_tree (n := w1.heap.size) _ _ _ _ _ R4.out hrb S4.out (by rw [erase3, HX.out, HY.out, erase0]; rfl) (Sits.node (by decide) (by simp [maxLen]) SL B4.out (fun i v hv => by simpa [cellsL, A.cells] using hv)) (New.node NN z13 (fun q => by have := HL3.out _ (fs _ q); omega)) (by omega)
end Go.Proofs.YtjmjmdmnejnlbaaGreatDoor
