/-
  CONTRACT of the program's closed.
-/
import Derived.Test.YtmaejdomlggopaaDf
import Derived.WalkMore
namespace Go.Proofs.Ytmaejdomlggopaa
open Go.RowKit

def outI (n : Nat) (o : Option (List Int)) : Array Value := match o with | some G => dA n G | none => dA 0 zs
set_option maxRecDepth 100000 in
set_option maxHeartbeats 1600000 in
theorem closed_any (n : Nat) (hn : n ≤ 13) (G : List Int) (hG : G.length = 169) (w : World) : Calls Try.prog 55 #[.agg (dA n G)] w fun e w' => e = .returned (.agg (outI n (stI n G n))) ∧ Below w.heap.size w w' := by
  have hz := zc64
  have h0 := dA0 n G
  have D0 := mkHid ((Dif.new w (n := n) hG 73).alloc (.cells (dA 0 zs) 73))
  have R0 := mkHid (Dif.new (w.alloc (.cells (dA n G) 73)) (n := 0) zs_len 73)
  have B0 := mkHid (((Below.refl w.heap.size w).alloc (Nat.le_refl _) (.cells (dA n G) 73)).alloc (by simp) (.cells (dA 0 zs) 73))
  go_enter Try.func55, Try.ntmps55
  go_wp2
  go_loopg [9] n (fun g s wr => ∃ (k : Nat) (G' : List Int), k + g = n ∧ s = .int .i64 k ∧ stI n G k = some G' ∧ Dif wr w.heap.size n G' ∧ Dif wr (w.heap.size + 1) 0 zs ∧ Below w.heap.size w wr)
  case atStart => exact ⟨0, G, by omega, rfl, rfl, D0.out, by simpa using R0.out, B0.out⟩
  case round =>
    obtain ⟨k, G', hkg, rfl, hst, hD, hR, hB⟩ := hrel
    have HST := mkHid hst
    have HD := mkHid hD
    have HR := mkHid hR
    have HB := mkHid hB
    have c0 := hD.size
    clear hst hR hB D0 R0 B0
    cases gk with
    | zero =>
      have hlt : ¬ ((k : Int) < (n : Int)) := by omega
      have e : k = n := by omega
      subst e
      clear hD
      go_wp2_with (first | (refine wp_load64 HD.out rfl rfl rfl ?_) | (refine wp_store64 HR.out HD.out.len rfl rfl rfl rfl ?_; intro w2 hD2 hg2))
      exact ret64 rfl hD2 rfl rfl ⟨by rw [HST.out]; rfl, HB.out.grown hg2 HB.out.size (fun q hq => by cases hq; omega)⟩
    | succ g =>
      have hlt : (k : Int) < (n : Int) := by omega
      have hk13 : (k : Int) < 13 := by omega
      have hl := hD.len
      obtain ⟨x, hx⟩ : ∃ x, G'.getD (k * 13 + k) 0 = x := ⟨_, rfl⟩
      have ck := hD.at (i := k) (j := k) (by omega) (by omega) hx
      have HX := mkHid hx
      have HLn := mkHid hl
      clear hD hx hl
      by_cases hneg : x < 0
      · have e : Hid (stI n G n = none) := by
          have h1 : stI n G (k + 1) = none := by rw [stI, HST.out]; simp only [Option.bind_some]; rw [if_pos (by rw [HX.out]; exact hneg)]
          have := stI_dead h1 (n - (k + 1))
          rw [show k + 1 + (n - (k + 1)) = n by omega] at this
          exact mkHid this
        go_wp2
        go_step3
        go_wp2_with (first | (refine wp_load64 HD.out rfl rfl rfl ?_) | (refine wp_store64 HR.out zs_len rfl rfl rfl rfl ?_; intro w2 hD2 hg2))
        rw [Exit.noGoto_ret]
        simp only [Exit.inBlock, Exit.then]
        exact ret64 rfl hD2 rfl rfl ⟨by rw [e.out]; rfl, HB.out.grown hg2 HB.out.size (fun q hq => by cases hq; omega)⟩
      · have HS1 : Hid (stI n G (k + 1) = some (passI n k n G')) := mkHid (by rw [stI, HST.out]; simp only [Option.bind_some]; rw [if_neg (by rw [HX.out]; exact hneg)])
        go_wp2
        go_step3
        go_wp2
        go_step3
        go_wp2
        clear ck c0 HST HX
        go_loopg [22] n (fun g2 s wy => ∃ (i : Nat), i + g2 = n ∧ s = .int .i64 i ∧ Dif wy w.heap.size n (passI n k i G') ∧ Dif wy (w.heap.size + 1) 0 zs ∧ Below w.heap.size w wy)
        case atStart => exact ⟨0, by omega, rfl, HD.out, HR.out, HB.out⟩
        case round =>
          clear HD HR HB
          obtain ⟨i, hig, rfl, hD, hR, hB⟩ := hrel
          have HD := mkHid hD
          have HR := mkHid hR
          have HB := mkHid hB
          have c0 := hD.size
          clear hD hR hB
          cases gk with
          | zero =>
            have hlt2 : ¬ ((i : Int) < (n : Int)) := by omega
            have e : i = n := by omega
            subst e
            go_wp2
            go_roundg g
            case measure => omega
            case rel => exact ⟨k + 1, _, by omega, by go_num, HS1.out, HD.out, HR.out, HB.out⟩
          | succ g2 =>
            have hlt2 : (i : Int) < (n : Int) := by omega
            obtain ⟨P, hP⟩ : ∃ P, passI n k i G' = P := ⟨_, rfl⟩
            have HP : Hid (passI n k (i + 1) G' = rowI n k i P) := mkHid (by rw [← hP]; rfl)
            rw [hP] at HD
            clear hP
            go_wp2
            go_step3
            go_wp2
            go_step3
            go_wp2
            clear c0
            go_loopg [27] n (fun g3 s wz => ∃ (j : Nat), j + g3 = n ∧ s = .int .i64 j ∧ (i = k → j = 0) ∧ Dif wz w.heap.size n (rowS 13 k i j P) ∧ Dif wz (w.heap.size + 1) 0 zs ∧ Below w.heap.size w wz)
            case atStart => exact ⟨0, by omega, rfl, fun _ => rfl, HD.out, HR.out, HB.out⟩
            case round =>
              clear HD HR HB
              obtain ⟨j, hjg, rfl, hik, hD, hR, hB⟩ := hrel
              have HD := mkHid hD
              have HR := mkHid hR
              have HB := mkHid hB
              have HIK := mkHid hik
              clear hR hB hik
              cases gk with
              | zero =>
                have hlt3 : ¬ ((j : Int) < (n : Int)) := by omega
                have e : j = n := by omega
                subst e
                have HE : Hid (rowI j k i P = rowS 13 k i j P) := mkHid (by unfold rowI; rw [if_neg (fun e => by have := HIK.out e; omega)])
                clear hD
                go_wp2
                go_roundg g2
                case measure => omega
                case rel => exact ⟨i + 1, by omega, by go_num, by rw [HP.out, HE.out]; exact HD.out, HR.out, HB.out⟩
              | succ g3 =>
                have hlt3 : (j : Int) < (n : Int) := by omega
                obtain ⟨H, hH⟩ : ∃ H, rowS 13 k i j P = H := ⟨_, rfl⟩
                have HH : Hid (rowS 13 k i (j + 1) P = relax 13 k i j H) := mkHid (by rw [← hH]; rfl)
                have HH0 := mkHid hH
                rw [hH] at HD hD
                clear hH
                obtain ⟨x1, hx1⟩ : ∃ x, H.getD (i * 13 + k) 0 = x := ⟨_, rfl⟩
                obtain ⟨x2, hx2⟩ : ∃ x, H.getD (k * 13 + j) 0 = x := ⟨_, rfl⟩
                obtain ⟨x3, hx3⟩ : ∃ x, H.getD (i * 13 + j) 0 = x := ⟨_, rfl⟩
                have c1 := hD.at (i := i) (j := k) (by omega) (by omega) hx1
                have c2 := hD.at (i := k) (j := j) (by omega) (by omega) hx2
                have c3 := hD.at (i := i) (j := j) (by omega) (by omega) hx3
                have f3 := hD.free (o := 1 + i * 13 + j) (by omega)
                have HR0 : Hid (relax 13 k i j H = if IntKind.i64.wrap (x1 + x2) < x3 then H.set (i * 13 + j) (IntKind.i64.wrap (x1 + x2)) else H) := mkHid (by unfold relax; rw [hx1, hx2, hx3])
                clear hx1 hx2 hx3 hD
                have a0 : (0 : Int) ≤ (i : Int) := by omega
                have a1 : (i : Int) < 13 := by omega
                have a2 : (0 : Int) ≤ (j : Int) := by omega
                have a3 : (j : Int) < 13 := by omega
                have a4 : (0 : Int) ≤ (k : Int) := by omega
                obtain ⟨y, hy⟩ : ∃ y, IntKind.i64.wrap (x1 + x2) = y := ⟨_, rfl⟩
                rw [hy] at HR0
                by_cases hik : i = k
                · have hik' : ((i : Int) == (k : Int)) = true := by rw [beq_iff_eq]; omega
                  have HIE := mkHid hik
                  clear hik
                  go_wp2
                  go_quiet (fail)
                  go_wp2
                  rw [Exit.noGoto_exit]
                  go_wp2
                  go_roundg g2
                  case measure => omega
                  case rel =>
                    have hj0 := HIK.out HIE.out
                    have e1 : H = P := by rw [← HH0.out, hj0]; rfl
                    exact ⟨i + 1, by omega, by go_num, by rw [HP.out]; unfold rowI; rw [if_pos HIE.out, ← e1]; exact HD.out.drewN _, HR.out.drewN _, below_drewN HB.out _⟩
                · have hik' : ((i : Int) == (k : Int)) = false := by rw [beq_eq_false_iff_ne]; omega
                  have HIE := mkHid hik
                  clear hik
                  by_cases hw : y < x3
                  · go_wp2
                    go_quiet (fail)
                    go_wp2
                    go_roundg g3
                    case measure => omega
                    case rel =>
                      refine ⟨j + 1, by omega, by go_num, fun e => absurd e HIE.out, ?_, ?_, ?_⟩
                      · rw [HH.out, HR0.out, if_pos (by omega)]; exact (HD.out.drewN _).put (by omega) (by omega) y
                      · exact (HR.out.drewN _).grown (grown_setCell _ _ _) (by simp)
                      · exact (below_drewN HB.out _).setCell (p := ⟨w.heap.size, 1 + i * 13 + j, none⟩) (Nat.le_refl _) _
                  · go_wp2
                    go_quiet (fail)
                    go_wp2
                    go_roundg g3
                    case measure => omega
                    case rel => exact ⟨j + 1, by omega, by go_num, fun e => absurd e HIE.out, by rw [HH.out, HR0.out, if_neg (by omega)]; exact HD.out.drewN _, HR.out.drewN _, below_drewN HB.out _⟩
end Go.Proofs.Ytmaejdomlggopaa
