/-
  CONTRACT of the program's reader's cond.
-/
import Derived.Test.YthccohemcagkcaaGreatDoorGj
import Derived.Test.YthccohemcagkcaaGreatDoorGk
namespace Go.Proofs.YthccohemcagkcaaGreatDoor
open Go.RowKit
open Pl

theorem relI_sign (s : ByteArray) (c : Nat) (hc : c < 6) (h : s = signI (11 + (c : Int))) : relI s = 11 + (c : Int) := by
  subst h
  rcases (by omega : c = 0 ∨ c = 1 ∨ c = 2 ∨ c = 3 ∨ c = 4 ∨ c = 5) with rfl | rfl | rfl | rfl | rfl | rfl <;> simp [signI, relI]
theorem relI_none (s : ByteArray) (h : ∀ c : Nat, c < 6 → s ≠ signI (11 + (c : Int))) : relI s = 0 := by
  have h0 := h 0 (by decide)
  have h1 := h 1 (by decide)
  have h2 := h 2 (by decide)
  have h3 := h 3 (by decide)
  have h4 := h 4 (by decide)
  have h5 := h 5 (by decide)
  simp [signI] at h0 h1 h2 h3 h4 h5
  simp [relI, h0, h1, h2, h3, h4, h5]
theorem sign_ne (c : Nat) (hc : c < 6) : signI (11 + (c : Int)) ≠ ⟨#[]⟩ := by
  rcases (by omega : c = 0 ∨ c = 1 ∨ c = 2 ∨ c = 3 ∨ c = 4 ∨ c = 5) with rfl | rfl | rfl | rfl | rfl | rfl <;> simp [signI]
theorem isW_iff {ws : List W3} {i : Nat} {s : ByteArray} (hs : s ≠ ⟨#[]⟩) : isW ws i s = true ↔ textW ws i = s := by
  constructor
  · exact isW_text
  · intro h
    by_cases q : i < ws.length
    · rw [isW_of_text q]; simpa using h
    · rw [textW_end (by omega)] at h; exact absurd h.symm hs
def ICond (rb : Nat) (a : Option Addr) (cap : Nat) (ws : List W3) (sz : Nat) (F : Nat) : Prop := ∀ (i : Nat) (w : World), Rd w rb a cap ws i sz →
  Calls Tryz.prog 129 #[.pointer (some ⟨rb, 0, none⟩)] w (Post rb a cap ws sz w (mCond ws F i))
set_option maxRecDepth 100000 in
set_option maxHeartbeats 8000000 in
theorem cond_all {rb : Nat} {a : Option Addr} {cap : Nat} {ws : List W3} {sz F : Nat} (hF : 5 * ws.length + 3 ≤ F) (hE : IExpr rb a cap ws sz F) : ICond rb a cap ws sz F := by
  intro i w h
  rw [show mCond ws F i = (mExpr ws F i).then_ fun x j => if relI (textW ws j) = 0 then .no j else (mExpr ws F (j + 1)).then_ fun y j2 => .ok (.node (relI (textW ws j)) nil_ 0 [x, y]) j2 from rfl]
  have hO1 := fun w h => hE i w (by omega) h
  generalize mExpr ws F i = r at hO1 ⊢
  have H1 := mkHid hO1
  have HA := mkHid h
  have hrb := h.lt
  have HE := mkHid hE
  clear h hO1 hE
  cases r with
  | no p =>
    go_enter Tryz.func129, Tryz.ntmps129
    go_wp2_with fail
    refine (H1.out _ (HA.out.alloc _)).mono ?_
    rintro e w1 ⟨⟨m, rfl⟩, r1, s1⟩
    exact ⟨rfl, ⟨m, rfl⟩, r1, ((Step.refl rb w).alloc _).trans s1⟩
  | ok t j =>
    simp only [Res.then_]
    show Calls _ _ _ _ (Post rb a cap ws sz w (if relI (textW ws j) = 0 then .no j else (mExpr ws F (j + 1)).then_ fun y j2 => .ok (.node (relI (textW ws j)) nil_ 0 [t, y]) j2))
    generalize hR : (if relI (textW ws j) = 0 then Res.no j else (mExpr ws F (j + 1)).then_ fun y j2 => .ok (.node (relI (textW ws j)) nil_ 0 [t, y]) j2) = R
    have HR := mkHid hR
    clear hR
    go_enter Tryz.func129, Tryz.ntmps129
    go_wp2_with fail
    refine (H1.out _ (HA.out.alloc _)).mono ?_
    rintro e w1 ⟨x, rfl, hx, hsx, hnx, r1, s1⟩
    have hG := Grown.first (s1.at (heap_alloc_new w _) (by omega)) hsx hnx (by simp) r1 (((Step.refl rb w).alloc _).trans s1) hrb _ rfl
    have hz : w.heap.size < w1.heap.size := (Array.getElem?_eq_some_iff.1 (s1.at (heap_alloc_new w _) (by omega))).1
    obtain ⟨yk, ys, ym, ya, yc, ykk⟩ := x
    have HG := mkHid hG
    have HX := mkHid hx
    clear hG hx hsx hnx r1 s1 H1 HA
    simp only [A.val]
    go_wp2
    go_loopw [4] (fun v w' => ∃ c : Nat, c ≤ 6 ∧ v = .int .i64 (11 + (c : Int)) ∧ Grown rb a cap ws sz w w1.heap.size w' (.node yk ys ym ya yc ykk) j ∧ ∀ d : Nat, d < c → textW ws j ≠ signI (11 + (d : Int))) (fun v _ => (17 - intOf v).toNat)
    case atStart => exact ⟨0, by omega, rfl, HG.out, fun d hd => by omega⟩
    case round =>
      obtain ⟨c, hc6, rfl, hG, hno⟩ := hrel
      have G0 := mkHid hG
      have HNO := mkHid hno
      clear hG hno HG
      by_cases hc : c < 6
      · have hc16 : (11 + (c : Int)) ≤ 16 := by omega
        have T0 := mkHid (fun w => condSign_any (11 + (c : Int)) w)
        have HNE := mkHid (sign_ne c hc)
        have HREL := mkHid (fun h => relI_sign (textW ws j) c hc h)
        generalize hsg : signI (11 + (c : Int)) = sg at T0 HNE HREL
        have HSG := mkHid hsg
        clear hsg
        by_cases hw : isW ws j sg = true
        · have hjl := isW_lt hw
          have hrel : relI (textW ws j) = 11 + (c : Int) := HREL.out (isW_text hw)
          have hm : (mExpr ws F (j + 1)).then_ (fun y j2 => .ok (.node (11 + (c : Int)) nil_ 0 [t, y]) j2) = R := by
            have := HR.out
            rw [if_neg (by rw [hrel]; omega), hrel] at this
            exact this
          have hO1 := fun w h => HE.out (j + 1) w (by omega) h
          have T1 := mkHid (fun w h => has_yes rb a cap ws j sz sg w h hw)
          generalize mExpr ws F (j + 1) = r at hm hO1
          have H1 := mkHid hO1
          clear hO1 hw hrel HR HREL HNE HSG HNO
          go_wp2_with fail
          refine (T0.out _).mono ?_
          rintro e w9 ⟨rfl, rfl⟩
          go_wp2_with fail
          refine (T1.out _ G0.out.rd).mono ?_
          rintro e w2 ⟨rfl, r2, s2⟩
          have G2 := mkHid (G0.out.on s2 r2)
          clear r2 s2 T1 T0
          obtain ⟨d0, d1, d2, d3, e0, e1, e2, e3⟩ := four_of (show w2.heap[w1.heap.size]? = some (.cells #[.int .i64 yk, .string ys, .int .i64 ym, .slice ya ykk.length yc] 26 (0, 0)) from G2.out.here)
          obtain ⟨c0, c1, c2, c3, f0, f1, f2, f3⟩ := four_of G2.out.res
          have hp2 := G2.out.plt
          cases r with
          | no p =>
            have HR : Hid (R = .no p) := hm.symm
            clear hm
            go_wp2
            refine wp_region_any (by kernel_rfl) ?_
            change wpAny _ _ _ _ _ _ _ (World.drew _)
            refine wpAny_take (i := 0) (v := ?v1) rfl (by kernel_rfl) (by kernel_rfl) (by kernel_rfl) (fun _ _ _ h => h) (Or.inl ⟨by rfl, ?hy1⟩) ?rest1
            case hy1 => intro w; go_simp; try with_reducible rfl
            refine wpAny_take (i := 2) (v := ?v2) rfl (by kernel_rfl) (by kernel_rfl) (by kernel_rfl) (fun _ _ _ h => h) (Or.inl ⟨by rfl, ?hy2⟩) ?rest2
            case hy2 => intro w; go_simp; try with_reducible rfl
            refine wpAny_ready (rs := [1, 3]) (by kernel_rfl) (by simp) ?_
            refine AllReady.cons rfl (fun K hK => ?_) ?_
            · go_simp
              refine hK _ _ ?_
              clear hK K
              refine wpAny_ready (rs := [3]) (by kernel_rfl) (by simp) ?_
              refine AllReady.cons rfl (fun K hK => ?_) AllReady.nil
              go_simp
              refine (H1.out _ G2.out.rd.drew).mono ?_
              rintro e w3 ⟨⟨m, rfl⟩, r3, s3⟩
              exact ⟨rfl, by rw [HR.out]; exact ⟨⟨m, rfl⟩, r3, G2.out.step.drew.trans s3⟩⟩
            · refine AllReady.cons rfl (fun K hK => ?_) AllReady.nil
              go_simp
              refine (H1.out _ G2.out.rd.drew).mono ?_
              rintro e w3 ⟨⟨m, rfl⟩, r3, s3⟩
              exact ⟨rfl, by rw [HR.out]; exact ⟨⟨m, rfl⟩, r3, G2.out.step.drew.trans s3⟩⟩
          | ok y j3 =>
            have HR : Hid (R = .ok (.node (11 + (c : Int)) nil_ 0 [t, y]) j3) := hm.symm
            clear hm
            go_wp2
            go_region_with (first | (go_at_call 131; refine (H1.out _ G2.out.rd.drew).mono ?_; rintro e w3 ⟨z, rfl, hz3, hsz, hnz, r3, s3⟩; obtain ⟨zk, zs, zm, za, zc, zkk⟩ := z; simp only [A.val]; have T3 := G2.out.drew.on s3 r3; obtain ⟨b0, b1, b2, b3, g0, g1, g2, g3⟩ := four_of (show w3.heap[w1.heap.size]? = some (.cells #[.int .i64 yk, .string ys, .int .i64 ym, .slice ya ykk.length yc] 26 (0, 0)) from T3.here); obtain ⟨h0, h1, h2, h3, k0, k1, k2, k3⟩ := four_of T3.res; have hp3 : w1.heap.size < w3.heap.size := T3.plt; have hq3 : w.heap.size < w3.heap.size := (by omega); have HT3 := mkHid T3; have HZ := mkHid hz3; have HSZ := mkHid hsz; have HNZ := mkHid hnz; clear T3 hz3 hsz hnz r3 s3))
            all_goals
                go_wp2
                obtain ⟨q0, q1, q2, q3⟩ := put4_cells HT3.out.res (.int .i64 (11 + (c : Int))) (.string ⟨#[]⟩) (.int .i64 0) (.slice (some ⟨w3.heap.size, 0, none⟩) 2 2) (.cells #[.int .i64 yk, .string ys, .int .i64 ym, .slice ya ykk.length yc, .int .i64 zk, .string zs, .int .i64 zm, .slice za zkk.length zc] 26)
                refine bodyPost_ret (v := (A.node (11 + (c : Int)) ⟨#[]⟩ 0 (some ⟨w3.heap.size, 0, none⟩) 2 [.node yk ys ym ya yc ykk, .node zk zs zm za zc zkk]).val) (by simp [results, Tryz.results129, go_sem, q0, q1, q2, q3, A.val]) rfl ?_
                have hlx := Sits.lt _ G2.out.sits
                have hE2 := end_list (n := w.heap.size + 1) (11 + (c : Int)) 0 ⟨#[]⟩ [.node yk ys ym ya yc ykk, .node zk zs zm za zc zkk] _ 2 HT3.out.res HT3.out.rd hrb HT3.out.step ⟨HT3.out.sits, HSZ.out, trivial⟩ (NewL.snoc (xs := [.node yk ys ym ya yc ykk]) (n1 := w2.heap.size) (NewL.one G2.out.new) (fun b hb => hlx b (by rwa [feet_one] at hb)) HNZ.out (by omega)) (by omega) (by simp [maxLen]) rfl (by decide)
                have he : erases [A.node yk ys ym ya yc ykk, .node zk zs zm za zc zkk] = [t, y] := by simp only [erases]; rw [HX.out, HZ.out]
                rw [he] at hE2
                rw [HR.out]
                exact hE2
        · have T1 := mkHid (fun w h => has_no rb a cap ws j sz sg w h (by simpa using hw))
          have hne : textW ws j ≠ sg := fun h => hw ((isW_iff HNE.out).2 h)
          have HN2 : Hid (∀ d : Nat, d < c + 1 → textW ws j ≠ signI (11 + (d : Int))) := fun d hd => by
            rcases (by omega : d < c ∨ d = c) with q | q
            · exact HNO.out d q
            · subst q; rw [HSG.out]; exact hne
          clear hne hw HREL HNE HSG HNO
          go_wp2_with fail
          refine (T0.out _).mono ?_
          rintro e w9 ⟨rfl, rfl⟩
          go_wp2_with fail
          refine (T1.out _ G0.out.rd).mono ?_
          rintro e w2 ⟨rfl, r2, s2⟩
          have G2 := mkHid (G0.out.on s2 r2)
          clear r2 s2 T1 T0
          go_wp2
          go_roundw
          case rel => exact ⟨c + 1, by omega, by go_num, G2.out, HN2.out⟩
          case measure => simp [intOf]; omega
      · have hR : R = .no j := by
          have hz0 : relI (textW ws j) = 0 := relI_none _ (fun d hd => HNO.out d (by omega))
          rw [← HR.out, if_pos hz0]
        have HR2 := mkHid hR
        have hc17 : ¬ (11 + (c : Int)) ≤ 16 := by omega
        clear hR HR HNO
        go_wp2
        exact ⟨rfl, by rw [HR2.out]; exact ⟨⟨_, rfl⟩, G0.out.rd, G0.out.step⟩⟩
end Go.Proofs.YthccohemcagkcaaGreatDoor
