/-
  CONTRACT of the program's closed.
  THE CONTRACTS IN TERMS OF TABLES THAT MAY BE NONE; both FactsCloses.
  CONTRACTS of the program's hasSym, canSet, isGap, added, freed.
-/
import Derived.Test.YtgclngofigffdaaFh02
import Derived.WalkMore
import Derived.Test.YtgclngofigffdaaFh05
namespace Go.Proofs.Ytgclngofigffdaa
open Go.RowKit

def outI (n : Nat) (o : Option (List Int)) : Array Value := match o with | some G => dA n G | none => dA 0 zs
set_option maxRecDepth 100000 in
set_option maxHeartbeats 1600000 in
theorem closed_any (n : Nat) (hn : n ≤ 13) (G : List Int) (hG : G.length = 169) (w : World) : Calls Try.prog 40 #[.agg (dA n G)] w fun e w' => e = .returned (.agg (outI n (stI n G n))) ∧ Below w.heap.size w w' := by
  have hz := zc64
  have h0 := dA0 n G
  have D0 := mkHid ((Dif.new w (n := n) hG 59).alloc (.cells (dA 0 zs) 59))
  have R0 := mkHid (Dif.new (w.alloc (.cells (dA n G) 59)) (n := 0) zs_len 59)
  have B0 := mkHid (((Below.refl w.heap.size w).alloc (Nat.le_refl _) (.cells (dA n G) 59)).alloc (by simp) (.cells (dA 0 zs) 59))
  go_enter Try.func40, Try.ntmps40
  go_wp2
  go_loopg [9] n (fun g s wr => ∃ (k : Nat) (G' : List Int), k + g = n ∧ s = .int .i64 k ∧ stI n G k = some G' ∧ Dif wr w.heap.size n G' ∧ Dif wr (w.heap.size + 1) 0 zs ∧ Below w.heap.size w wr)
  case atStart => exact ⟨0, G, by omega, rfl, rfl, D0.out, by simpa using R0.out, B0.out⟩
  case round =>
    obtain ⟨k, G', hkg, rfl, hst, hD, hR, hB⟩ := hrel
    have HST := mkHid hst
    have HD := mkHid hD
    have HR := mkHid hR
    have HB := mkHid hB
    have c0 := hD.size
    clear hst hR hB D0 R0 B0
    cases gk with
    | zero =>
      have hlt : ¬ ((k : Int) < (n : Int)) := by omega
      have e : k = n := by omega
      subst e
      clear hD
      go_wp2_with (first | (refine wp_load64 HD.out rfl rfl rfl ?_) | (refine wp_store64 HR.out HD.out.len rfl rfl rfl rfl ?_; intro w2 hD2 hg2))
      exact ret64 rfl hD2 rfl rfl ⟨by rw [HST.out]; rfl, HB.out.grown hg2 HB.out.size (fun q hq => by cases hq; omega)⟩
    | succ g =>
      have hlt : (k : Int) < (n : Int) := by omega
      have hk13 : (k : Int) < 13 := by omega
      have hl := hD.len
      obtain ⟨x, hx⟩ : ∃ x, G'.getD (k * 13 + k) 0 = x := ⟨_, rfl⟩
      have ck := hD.at (i := k) (j := k) (by omega) (by omega) hx
      have HX := mkHid hx
      have HLn := mkHid hl
      clear hD hx hl
      by_cases hneg : x < 0
      · have e : Hid (stI n G n = none) := by
          have h1 : stI n G (k + 1) = none := by rw [stI, HST.out]; simp only [Option.bind_some]; rw [if_pos (by rw [HX.out]; exact hneg)]
          have := stI_dead h1 (n - (k + 1))
          rw [show k + 1 + (n - (k + 1)) = n by omega] at this
          exact mkHid this
        go_wp2
        go_step3
        go_wp2_with (first | (refine wp_load64 HD.out rfl rfl rfl ?_) | (refine wp_store64 HR.out zs_len rfl rfl rfl rfl ?_; intro w2 hD2 hg2))
        rw [Exit.noGoto_ret]
        simp only [Exit.inBlock, Exit.then]
        exact ret64 rfl hD2 rfl rfl ⟨by rw [e.out]; rfl, HB.out.grown hg2 HB.out.size (fun q hq => by cases hq; omega)⟩
      · have HS1 : Hid (stI n G (k + 1) = some (passI n k n G')) := mkHid (by rw [stI, HST.out]; simp only [Option.bind_some]; rw [if_neg (by rw [HX.out]; exact hneg)])
        go_wp2
        go_step3
        go_wp2
        go_step3
        go_wp2
        clear ck c0 HST HX
        go_loopg [22] n (fun g2 s wy => ∃ (i : Nat), i + g2 = n ∧ s = .int .i64 i ∧ Dif wy w.heap.size n (passI n k i G') ∧ Dif wy (w.heap.size + 1) 0 zs ∧ Below w.heap.size w wy)
        case atStart => exact ⟨0, by omega, rfl, HD.out, HR.out, HB.out⟩
        case round =>
          clear HD HR HB
          obtain ⟨i, hig, rfl, hD, hR, hB⟩ := hrel
          have HD := mkHid hD
          have HR := mkHid hR
          have HB := mkHid hB
          have c0 := hD.size
          clear hD hR hB
          cases gk with
          | zero =>
            have hlt2 : ¬ ((i : Int) < (n : Int)) := by omega
            have e : i = n := by omega
            subst e
            go_wp2
            go_roundg g
            case measure => omega
            case rel => exact ⟨k + 1, _, by omega, by go_num, HS1.out, HD.out, HR.out, HB.out⟩
          | succ g2 =>
            have hlt2 : (i : Int) < (n : Int) := by omega
            obtain ⟨P, hP⟩ : ∃ P, passI n k i G' = P := ⟨_, rfl⟩
            have HP : Hid (passI n k (i + 1) G' = rowI n k i P) := mkHid (by rw [← hP]; rfl)
            rw [hP] at HD
            clear hP
            go_wp2
            go_step3
            go_wp2
            go_step3
            go_wp2
            clear c0
            go_loopg [27] n (fun g3 s wz => ∃ (j : Nat), j + g3 = n ∧ s = .int .i64 j ∧ (i = k → j = 0) ∧ Dif wz w.heap.size n (rowS 13 k i j P) ∧ Dif wz (w.heap.size + 1) 0 zs ∧ Below w.heap.size w wz)
            case atStart => exact ⟨0, by omega, rfl, fun _ => rfl, HD.out, HR.out, HB.out⟩
            case round =>
              clear HD HR HB
              obtain ⟨j, hjg, rfl, hik, hD, hR, hB⟩ := hrel
              have HD := mkHid hD
              have HR := mkHid hR
              have HB := mkHid hB
              have HIK := mkHid hik
              clear hR hB hik
              cases gk with
              | zero =>
                have hlt3 : ¬ ((j : Int) < (n : Int)) := by omega
                have e : j = n := by omega
                subst e
                have HE : Hid (rowI j k i P = rowS 13 k i j P) := mkHid (by unfold rowI; rw [if_neg (fun e => by have := HIK.out e; omega)])
                clear hD
                go_wp2
                go_roundg g2
                case measure => omega
                case rel => exact ⟨i + 1, by omega, by go_num, by rw [HP.out, HE.out]; exact HD.out, HR.out, HB.out⟩
              | succ g3 =>
                have hlt3 : (j : Int) < (n : Int) := by omega
                obtain ⟨H, hH⟩ : ∃ H, rowS 13 k i j P = H := ⟨_, rfl⟩
                have HH : Hid (rowS 13 k i (j + 1) P = relax 13 k i j H) := mkHid (by rw [← hH]; rfl)
                have HH0 := mkHid hH
                rw [hH] at HD hD
                clear hH
                obtain ⟨x1, hx1⟩ : ∃ x, H.getD (i * 13 + k) 0 = x := ⟨_, rfl⟩
                obtain ⟨x2, hx2⟩ : ∃ x, H.getD (k * 13 + j) 0 = x := ⟨_, rfl⟩
                obtain ⟨x3, hx3⟩ : ∃ x, H.getD (i * 13 + j) 0 = x := ⟨_, rfl⟩
                have c1 := hD.at (i := i) (j := k) (by omega) (by omega) hx1
                have c2 := hD.at (i := k) (j := j) (by omega) (by omega) hx2
                have c3 := hD.at (i := i) (j := j) (by omega) (by omega) hx3
                have f3 := hD.free (o := 1 + i * 13 + j) (by omega)
                have HR0 : Hid (relax 13 k i j H = if IntKind.i64.wrap (x1 + x2) < x3 then H.set (i * 13 + j) (IntKind.i64.wrap (x1 + x2)) else H) := mkHid (by unfold relax; rw [hx1, hx2, hx3])
                clear hx1 hx2 hx3 hD
                have a0 : (0 : Int) ≤ (i : Int) := by omega
                have a1 : (i : Int) < 13 := by omega
                have a2 : (0 : Int) ≤ (j : Int) := by omega
                have a3 : (j : Int) < 13 := by omega
                have a4 : (0 : Int) ≤ (k : Int) := by omega
                obtain ⟨y, hy⟩ : ∃ y, IntKind.i64.wrap (x1 + x2) = y := ⟨_, rfl⟩
                rw [hy] at HR0
                by_cases hik : i = k
                · have hik' : ((i : Int) == (k : Int)) = true := by rw [beq_iff_eq]; omega
                  have HIE := mkHid hik
                  clear hik
                  go_wp2
                  go_quiet (fail)
                  go_wp2
                  rw [Exit.noGoto_exit]
                  go_wp2
                  go_roundg g2
                  case measure => omega
                  case rel =>
                    have hj0 := HIK.out HIE.out
                    have e1 : H = P := by rw [← HH0.out, hj0]; rfl
                    exact ⟨i + 1, by omega, by go_num, by rw [HP.out]; unfold rowI; rw [if_pos HIE.out, ← e1]; exact HD.out.drewN _, HR.out.drewN _, below_drewN HB.out _⟩
                · have hik' : ((i : Int) == (k : Int)) = false := by rw [beq_eq_false_iff_ne]; omega
                  have HIE := mkHid hik
                  clear hik
                  by_cases hw : y < x3
                  · go_wp2
                    go_quiet (fail)
                    go_wp2
                    go_roundg g3
                    case measure => omega
                    case rel =>
                      refine ⟨j + 1, by omega, by go_num, fun e => absurd e HIE.out, ?_, ?_, ?_⟩
                      · rw [HH.out, HR0.out, if_pos (by omega)]; exact (HD.out.drewN _).put (by omega) (by omega) y
                      · exact (HR.out.drewN _).grown (grown_setCell _ _ _) (by simp)
                      · exact (below_drewN HB.out _).setCell (p := ⟨w.heap.size, 1 + i * 13 + j, none⟩) (Nat.le_refl _) _
                  · go_wp2
                    go_quiet (fail)
                    go_wp2
                    go_roundg g3
                    case measure => omega
                    case rel => exact ⟨j + 1, by omega, by go_num, fun e => absurd e HIE.out, by rw [HH.out, HR0.out, if_neg (by omega)]; exact HD.out.drewN _, HR.out.drewN _, below_drewN HB.out _⟩
end Go.Proofs.Ytgclngofigffdaa
namespace Go.Proofs.Ytgclngofigffdaa
open Go.RowKit

def D (n : Nat) (o : Option Tab) : Array Value := match o with | some f => dA n (grid n f) | none => dA 0 zs
def okO (z : Int) (l : List Int) : Option Tab := if okF z l = true then some (tab z.toNat l) else none
/-- A table that may be none, of a size that may be, within bounds. -/
def GoodO (n : Nat) (o : Option Tab) : Prop := ∀ f, o = some f → 1 ≤ n ∧ n ≤ 13 ∧ Bd n f 10000000
def FineO (n : Nat) (o : Option Tab) : Prop := ∀ f, o = some f → 1 ≤ n ∧ n ≤ 13 ∧ Fine n f
theorem FineO.good {n : Nat} {o : Option Tab} (h : FineO n o) : GoodO n o := fun f e => ⟨(h f e).1, (h f e).2.1, (h f e).2.2.bd⟩
theorem okO_fine (z : Int) (l : List Int) : FineO z.toNat (okO z l) := fun f e => by
  unfold okO at e
  split at e
  · rename_i h
    obtain ⟨n, rfl, h1, h2, _, _, h3⟩ := ok_of h
    cases e
    simpa using ⟨h1, h2, h3⟩
  · cases e
theorem clo_fineO {n : Nat} {o : Option Tab} (h : FineO n o) : FineO n (o.bind (cloO n)) := fun f e => by
  cases o with
  | none => cases e
  | some g =>
    obtain ⟨h1, h2, h3⟩ := h g rfl
    simp only [Option.bind_some, cloO] at e
    split at e
    · rename_i hc
      cases e
      exact ⟨h1, h2, clo_fine h3 hc⟩
    · cases e
theorem okO_yes {z : Int} {l : List Int} (h : okF z l = true) : okO z l = some (tab z.toNat l) := if_pos h
theorem okO_no {z : Int} {l : List Int} (h : okF z l = false) : okO z l = none := if_neg (by rw [h]; decide)
theorem D_len (n : Nat) (o : Option Tab) : ∃ m G, D n o = dA m G ∧ G.length = 169 := by
  cases o with
  | none => exact ⟨0, zs, rfl, zs_len⟩
  | some f => exact ⟨n, grid n f, rfl, grid_len n f⟩
theorem diffsD (z : Int) (l : List Int) (a : Option Addr) (c : Nat) (w : World) (hc : l.length ≤ c) (hl : IntsAt w a l) : Calls Try.prog 39 #[.agg #[.int .i64 z, .slice a l.length c]] w fun e w' => e = .returned (.agg (D z.toNat (okO z l))) ∧ Below w.heap.size w w' := by
  cases h : okF z l
  · rw [okO_no h]; exact diffsOf_no z l a c w h hl
  · rw [okO_yes h]
    obtain ⟨n, rfl, _⟩ := ok_of h
    exact diffsOf_yes n l a c w h hc hl
theorem closedD (n : Nat) (o : Option Tab) (ho : GoodO n o) (w : World) : Calls Try.prog 40 #[.agg (D n o)] w fun e w' => e = .returned (.agg (D n (o.bind (cloO n)))) ∧ Below w.heap.size w w' := by
  cases o with
  | none => exact closed_any 0 (by omega) zs zs_len w
  | some f =>
    obtain ⟨_, h2, h3⟩ := ho f rfl
    have := closed_any n h2 (grid n f) (grid_len n f) w
    rw [impl_close h2 h3] at this
    refine this.mono fun e w' h => ⟨?_, h.2⟩
    rw [h.1]
    simp only [Option.bind_some, cloO]
    split <;> rfl
theorem factsD (n : Nat) (o : Option Tab) (ho : GoodO n o) (w : World) : Calls Try.prog 42 #[.agg (D n o)] w fun e w' => Gives w w' e (outZ o n) (outL o n) := by
  cases o with
  | none => exact facts_no w
  | some f =>
    obtain ⟨h1, h2, _⟩ := ho f rfl
    exact facts_yes n h1 h2 f w
theorem sCloseD (n : Nat) (f : Tab) (h1 : 1 ≤ n) (h2 : n ≤ 13) (hb : Bd n f 10000000) (a : Option Addr) (c : Nat) (w : World) (hA : IntsAt w a (mk n f)) : Calls Try.prog 53 #[.int .i64 n, .slice a (mk n f).length c] w fun e w' => Gives w w' e (outZ (cloO n f) n) (outL (cloO n f) n) := by
  have := sClose_of n h1 h2 (mk n f) (mk_len n f) a c w hA
  rw [spec_close h1 h2 hb] at this
  refine this.mono fun e w' h => ?_
  unfold cloO
  split
  · rename_i hc
    rw [if_pos hc] at h
    exact h
  · rename_i hc
    rw [if_neg hc] at h
    exact h
theorem outL_len {n : Nat} {o : Option Tab} (h : GoodO n o) : (outL o n).length ≤ 169 := by
  cases o with
  | none => simp [outL]
  | some f => simp only [outL, mk_len]; exact sq_le (h f rfl).2.1
theorem Gives.shut {w w4 w5 : World} {b : Nat} {ao : Option Addr} {cap : Nat} {l : List Int} (hbel : Below w.heap.size w w4) (hb : w.heap.size ≤ b) (hb4 : b < w4.heap.size) (h : OwnI w5 w4.heap.size (.slice ao l.length cap) l) (h5 : Below w4.heap.size w4 w5) (v0 v1 : Value) :
    OwnI ((w5.setCell ⟨b, 0, none⟩ v0).setCell ⟨b, 1, none⟩ v1) w.heap.size (.slice ao l.length cap) l ∧ Below w.heap.size w ((w5.setCell ⟨b, 0, none⟩ v0).setCell ⟨b, 1, none⟩ v1) := by
  have hlo : ∀ q, Value.ownBlock (.slice ao l.length cap) = some q → some b ≠ some q := fun q hq => some_ne (by have := h.lt hq; omega)
  exact ⟨((h.mono hbel.size).grown (grown_setCell _ ⟨b, 0, none⟩ _) hlo).grown (grown_setCell _ ⟨b, 1, none⟩ _) hlo, ((below_step hbel h5).setCell (p := ⟨b, 0, none⟩) hb _).setCell (p := ⟨b, 1, none⟩) hb _⟩
theorem Gives.mono {w w1 w' : World} {e : Ending} {z : Int} {l : List Int} (h : Gives w1 w' e z l) (hb : Below w.heap.size w w1) : Gives w w' e z l := by
  obtain ⟨ao, cap, h1, h2, h3⟩ := h
  exact ⟨ao, cap, h1, h2.mono hb.size, below_step hb h3⟩
set_option maxRecDepth 100000 in
set_option maxHeartbeats 800000 in
theorem iClose_any (z : Int) (l : List Int) (a : Option Addr) (c : Nat) (w : World) (hc : l.length ≤ c) (hl : IntsAt w a l) : Calls Try.prog 12 #[.agg #[.int .i64 z, .slice a l.length c]] w fun e w' => Gives w w' e (outZ ((okO z l).bind (cloO z.toNat)) z.toNat) (outL ((okO z l).bind (cloO z.toNat)) z.toNat) := by
  have HC := mkHid hc
  have HL := mkHid hl
  have HF := mkHid (okO_fine z l)
  have HG := mkHid (clo_fineO (okO_fine z l))
  have B0 := mkHid (((Below.refl w.heap.size w).alloc (Nat.le_refl _) (.cells #[.int .i64 z, .slice a l.length c] 26)).alloc (by simp) (.cells #[.int .i64 0, .slice none 0 0] 26))
  have Z0 := mkHid (Fz.new (w.alloc (.cells #[.int .i64 z, .slice a l.length c] 26)))
  obtain ⟨n, hn⟩ : ∃ n, z.toNat = n := ⟨_, rfl⟩
  obtain ⟨o, ho⟩ : ∃ o, okO z l = o := ⟨_, rfl⟩
  have HD : Hid (∀ v, IntsAt v a l → Calls Try.prog 39 #[.agg #[.int .i64 z, .slice a l.length c]] v fun e w' => e = .returned (.agg (D n o)) ∧ Below v.heap.size v w') := mkHid fun v hv => by rw [← ho, ← hn]; exact diffsD z l a c v HC.out hv
  rw [hn, ho] at HF HG
  rw [hn, ho]
  clear hc hl hn ho
  go_enter Try.func12, Try.ntmps12
  go_wp2_with fail
  refine (HD.out _ (HL.out.below B0.out)).mono ?_
  rintro e w1 ⟨rfl, hb1⟩
  have B1 := mkHid (below_step B0.out hb1)
  have Z1 : Hid (Fz w1 (w.heap.size + 1)) := mkHid (by have := Z0.out.below hb1; simpa using this)
  clear hb1 B0 Z0
  go_wp2_with fail
  refine (closedD n o HF.out.good _).mono ?_
  rintro e w2 ⟨rfl, hb2⟩
  have B2 := mkHid (below_step B1.out hb2)
  have Z2 := mkHid (Z1.out.below hb2)
  clear hb2 B1 Z1
  go_wp2_with fail
  refine (factsD n _ HG.out.good _).mono ?_
  rintro e w3 ⟨ao, cap, rfl, ho, hb3⟩
  obtain ⟨⟨z0, z1⟩, z2, z3⟩ := Z2.out.below hb3
  have HE := mkHid (fun v0 v1 => Gives.shut (b := w.heap.size + 1) B2.out (Nat.le_succ _) Z2.out.lt ho hb3 v0 v1)
  clear hb3 ho B2 Z2
  go_wp2
  refine bodyPost_ret (v := .agg #[.int .i64 (outZ (o.bind (cloO n)) n), .slice ao (outL (o.bind (cloO n)) n).length cap]) (by simp [results, Try.results12, go_sem, z0, z1]) rfl ⟨ao, cap, rfl, (HE.out _ _).1, (HE.out _ _).2⟩
end Go.Proofs.Ytgclngofigffdaa
namespace Go.Proofs.Ytgclngofigffdaa
open Go.RowKit

def symB (i n : Int) : Bool := decide (0 ≤ i ∧ i < n)
theorem wpo_load64 {op : Oper} {a : Act} {w : World} {K : Act → World → Prop} {Q : Exit → Act → World → Prop} {x : Operand} {b : Nat} {n : Int} {G : List Int} (hD : Dif w b n G) (ho : op.op = .load 59 x)
    (hx : a.eval x = .pointer (some ⟨b, 0, none⟩)) (h : K (a.put op.dst (.agg (dA n G))) w) : op.wp Try.prog a w K Q :=
  wp_load_mid 59 x ho b 0 hx (dL n G) _ hD.range Try.underlying59 rfl (by rw [dL_len hD.len]; exact size64) h
set_option maxRecDepth 100000 in
set_option maxHeartbeats 400000 in
theorem hasSym_any (n : Int) (G : List Int) (i : Int) (w : World) : Calls Try.prog 61 #[.agg (dA n G), .int .i64 i] w fun e w' => e = .returned (.bool (symB i n)) ∧ Below w.heap.size w w' := by
  have h0 := dA0 n G
  by_cases h1 : 0 ≤ i
  · by_cases h2 : i < n
    · have e := mkHid (show symB i n = true from decide_eq_true (show 0 ≤ i ∧ i < n from ⟨h1, h2⟩))
      go_enter Try.func61, Try.ntmps61
      go_wp2
      go_ret
      exact ⟨ret_bool e.out.symm, (Below.refl _ _).alloc (Nat.le_refl _) _⟩
    · have e := mkHid (show symB i n = false from decide_eq_false (show ¬ (0 ≤ i ∧ i < n) from fun h => h2 h.2))
      go_enter Try.func61, Try.ntmps61
      go_wp2
      go_ret
      exact ⟨ret_bool e.out.symm, (Below.refl _ _).alloc (Nat.le_refl _) _⟩
  · have e := mkHid (show symB i n = false from decide_eq_false (show ¬ (0 ≤ i ∧ i < n) from fun h => h1 h.1))
    go_enter Try.func61, Try.ntmps61
    go_wp2
    go_ret
    exact ⟨ret_bool e.out.symm, (Below.refl _ _).alloc (Nat.le_refl _) _⟩
def setT (f : Tab) (i j : Nat) (c : Int) : Tab := fun a b => if a = i ∧ b = j then min (f i j) c else f a b
theorem grid_set {n : Nat} (hn : n ≤ 13) (f : Tab) {i j : Nat} (hi : i < n) (hj : j < n) (x : Int) : (grid n f).set (i * 13 + j) x = grid n (fun a b => if a = i ∧ b = j then x else f a b) := by
  refine grid_of hn (by rw [List.length_set, grid_len]) (fun a b ha hb => ?_) (fun p hp => ?_)
  · rw [getD_set]
    by_cases h : a = i ∧ b = j
    · obtain ⟨rfl, rfl⟩ := h
      rw [if_pos ⟨rfl, by rw [grid_len]; omega⟩, if_pos ⟨rfl, rfl⟩]
    · rw [if_neg (fun e => h (idx_inj (by omega) (by omega) e.1)), if_neg h]
      exact grid_V hn f a b ha hb
  · rw [getD_set, if_neg (fun e => hp i j hi hj e.1)]
    exact grid_out p hp
theorem mk_set {n : Nat} (f : Tab) {i j : Nat} (hi : i < n) (hj : j < n) (x : Int) : (mk n f).set (i * n + j) x = mk n (fun a b => if a = i ∧ b = j then x else f a b) := by
  refine mk_of (by rw [List.length_set, mk_len]) (fun a b ha hb => ?_)
  rw [getD_set]
  by_cases h : a = i ∧ b = j
  · obtain ⟨rfl, rfl⟩ := h
    rw [if_pos ⟨rfl, by rw [mk_len]; exact idx_lt hi hj⟩, if_pos ⟨rfl, rfl⟩]
  · rw [if_neg (fun e => h (idx_inj (by omega) (by omega) e.1)), if_neg h]
    exact mk_V n f a b ha hb
def addO (n i j : Nat) (c : Int) (o : Option Tab) : Option Tab := o.bind fun f => if c < -2000000 then none else cloO n (setT f i j c)
theorem setT_bd {n : Nat} {f : Tab} (h : Bd n f 10000000) {i j : Nat} (hi : i < n) (hj : j < n) {c : Int} (hc : ¬ c < -2000000) : Bd n (setT f i j c) 10000000 := fun a b ha hb => by
  have h1 := h a b ha hb
  have h2 := h i j hi hj
  unfold setT
  split <;> omega
set_option maxRecDepth 100000 in
set_option maxHeartbeats 1600000 in
theorem added_some (n : Nat) (f : Tab) (h1 : 1 ≤ n) (h2 : n ≤ 13) (hb : Bd n f 10000000) (i j : Nat) (hi : i < n) (hj : j < n) (c : Int) (w : World) : Calls Try.prog 62 #[.agg (dA n (grid n f)), .int .i64 i, .int .i64 j, .int .i64 c] w fun e w' => e = .returned (.agg (D n (addO n i j c (some f)))) ∧ Below w.heap.size w w' := by
  have hz := zc64
  have hn0 : decide ((n : Int) = 0) = false := decide_eq_false (by omega)
  have D0 := mkHid ((Dif.new w (n := n) (grid_len n f) 59).alloc (.cells (dA 0 zs) 59))
  have R0 := mkHid (Dif.new (w.alloc (.cells (dA n (grid n f)) 59)) (n := 0) zs_len 59)
  have B0 := mkHid (((Below.refl w.heap.size w).alloc (Nat.le_refl _) (.cells (dA n (grid n f)) 59)).alloc (by simp) (.cells (dA 0 zs) 59))
  by_cases hc : c < -2000000
  · have e : Hid (addO n i j c (some f) = none) := mkHid (by simp only [addO, Option.bind_some]; rw [if_pos hc])
    obtain ⟨G, hG⟩ : ∃ G, grid n f = G := ⟨_, rfl⟩
    rw [hG] at D0 R0 B0
    rw [hG]
    clear hG hb
    go_enter Try.func62, Try.ntmps62
    go_wp2_with (first | (refine wp_load64 D0.out rfl rfl rfl ?_))
    refine (isNone_any n G _).mono ?_
    rintro e2 w1 ⟨rfl, hb1⟩
    rw [hn0]
    have R1 : Hid (Dif w1 (w.heap.size + 1) 0 zs) := mkHid (by have := R0.out.below hb1; simpa using this)
    have B1 := mkHid (below_step B0.out hb1)
    clear hb1
    go_wp2_with (first | (refine wp_store64 R1.out zs_len rfl rfl rfl rfl ?_; intro w2 hD2 hg2))
    exact ret64 rfl hD2 rfl rfl ⟨by rw [e.out]; rfl, B1.out.grown hg2 B1.out.size (fun q hq => by cases hq; omega)⟩
  · have e : Hid (addO n i j c (some f) = (some (setT f i j c)).bind (cloO n)) := mkHid (by simp only [addO, Option.bind_some]; rw [if_neg hc])
    have HG : Hid (GoodO n (some (setT f i j c))) := mkHid fun g hg => by cases hg; exact ⟨h1, h2, setT_bd hb hi hj hc⟩
    obtain ⟨x, hx⟩ : ∃ x, f i j = x := ⟨_, rfl⟩
    have HX : Hid ((grid n f).getD (i * 13 + j) 0 = x) := mkHid ((grid_V h2 f i j hi hj).trans hx)
    have HP : Hid ((grid n f).set (i * 13 + j) (min x c) = grid n (setT f i j c)) := mkHid (by rw [grid_set h2 f hi hj, ← hx]; rfl)
    have HCL : Hid (∀ v, Calls Try.prog 40 #[.agg (dA n (grid n (setT f i j c)))] v fun e w' => e = .returned (.agg (D n (addO n i j c (some f)))) ∧ Below v.heap.size v w') := mkHid fun v => by rw [e.out]; exact closedD n (some (setT f i j c)) HG.out v
    obtain ⟨G2, hG2⟩ : ∃ G, grid n (setT f i j c) = G := ⟨_, rfl⟩
    rw [hG2] at HP HCL
    obtain ⟨G, hG⟩ : ∃ G, grid n f = G := ⟨_, rfl⟩
    rw [hG] at D0 R0 B0 HX HP
    rw [hG]
    obtain ⟨m, G3, hm, hm3⟩ := D_len n (addO n i j c (some f))
    rw [hm] at HCL
    rw [hm]
    have HM3 := mkHid hm3
    clear hG hG2 hb hx hm hm3
    have hMin : ∀ (v : World) (ts : Array TypeId) (t : TypeId) (x y : Int), (Builtin.min_ ts t #[.int .i64 x, .int .i64 y]).run Try.prog v = .ok (.int .i64 (min x y)) v := run_min_M
    go_enter Try.func62, Try.ntmps62
    go_wp2_with (first | (refine wp_load64 D0.out rfl rfl rfl ?_))
    refine (isNone_any n G _).mono ?_
    rintro e2 w1 ⟨rfl, hb1⟩
    rw [hn0]
    have R1 : Hid (Dif w1 (w.heap.size + 1) 0 zs) := mkHid (by have := R0.out.below hb1; simpa using this)
    have D1 := mkHid (D0.out.below hb1)
    have B1 := mkHid (below_step B0.out hb1)
    have c1 := D1.out.at (i := i) (j := j) (by omega) (by omega) HX.out
    have f1 := D1.out.free (o := 1 + i * 13 + j) (by omega)
    have a0 : (0 : Int) ≤ (i : Int) := by omega
    have a1 : (i : Int) < 13 := by omega
    have a2 : (0 : Int) ≤ (j : Int) := by omega
    have a3 : (j : Int) < 13 := by omega
    clear hb1 D0 R0 B0
    go_wp2_with fail
    go_region
    have D2 : Hid (Dif (w1.setCell ⟨w.heap.size, 1 + i * 13 + j, none⟩ (.int .i64 (min x c))).drew w.heap.size n G2) := mkHid (by rw [← HP.out]; exact (D1.out.put (by omega) (by omega) (min x c)).drew)
    have R2 := mkHid ((R1.out.grown (grown_setCell w1 ⟨w.heap.size, 1 + i * 13 + j, none⟩ (.int .i64 (min x c))) (some_ne (by show w.heap.size + 1 ≠ w.heap.size; omega))).drew)
    have B2 := mkHid (B1.out.setCell (p := ⟨w.heap.size, 1 + i * 13 + j, none⟩) (Nat.le_refl _) (.int .i64 (min x c))).drew
    obtain ⟨w2, hw2⟩ : ∃ w2, (w1.setCell ⟨w.heap.size, 1 + i * 13 + j, none⟩ (.int .i64 (min x c))).drew = w2 := ⟨_, rfl⟩
    rw [hw2] at D2 R2 B2
    rw [hw2]
    clear hw2 c1 f1 D1 R1 B1
    go_wp2_with (first | (refine wp_load64 D2.out rfl rfl rfl ?_))
    refine (HCL.out _).mono ?_
    rintro e2 w3 ⟨rfl, hb3⟩
    have R3 := mkHid (R2.out.below hb3)
    have B3 := mkHid (below_step B2.out hb3)
    clear hb3
    go_wp2_with (first | (refine wp_store64 R3.out HM3.out rfl rfl rfl rfl ?_; intro w4 hD4 hg4))
    exact ret64 rfl hD4 rfl rfl ⟨rfl, B3.out.grown hg4 B3.out.size (fun q hq => by cases hq; omega)⟩
end Go.Proofs.Ytgclngofigffdaa
