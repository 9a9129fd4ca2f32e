/-
  CONTRACT of the program's closed.
  THE CONTRACTS IN TERMS OF TABLES THAT MAY BE NONE; both FactsCloses.
  CONTRACT of the specification's FactsClose.
  A SITE BY VALUE, in memory: a Seg that is ok and what is known, closed.
-/
import Derived.Test.YtihpajiololfoaaGreatSh23
import Derived.WalkMore
import Derived.Test.YtihpajiololfoaaGreatSh25
import Derived.Test.YtihpajiololfoaaGreatSh03
import Derived.Deep.MidRow
import Derived.Deep.WholeRow
namespace Go.Proofs.YtihpajiololfoaaGreat.Q
open Go.RowKit

def outI (n : Nat) (o : Option (List Int)) : Array Value := match o with | some G => dA n G | none => dA 0 zs
set_option maxRecDepth 100000 in
set_option maxHeartbeats 1600000 in
theorem closed_any (n : Nat) (hn : n ≤ 13) (G : List Int) (hG : G.length = 169) (w : World) : Calls Tryz.prog 87 #[.agg (dA n G)] w fun e w' => e = .returned (.agg (outI n (stI n G n))) ∧ Below w.heap.size w w' := by
  have hz := zc64
  have h0 := dA0 n G
  have D0 := mkHid ((Dif.new w (n := n) hG 80).alloc (.cells (dA 0 zs) 80))
  have R0 := mkHid (Dif.new (w.alloc (.cells (dA n G) 80)) (n := 0) zs_len 80)
  have B0 := mkHid (((Below.refl w.heap.size w).alloc (Nat.le_refl _) (.cells (dA n G) 80)).alloc (by simp) (.cells (dA 0 zs) 80))
  go_enter Tryz.func87, Tryz.ntmps87
  go_wp2
  go_loopg [9] n (fun g s wr => ∃ (k : Nat) (G' : List Int), k + g = n ∧ s = .int .i64 k ∧ stI n G k = some G' ∧ Dif wr w.heap.size n G' ∧ Dif wr (w.heap.size + 1) 0 zs ∧ Below w.heap.size w wr)
  case atStart => exact ⟨0, G, by omega, rfl, rfl, D0.out, by simpa using R0.out, B0.out⟩
  case round =>
    obtain ⟨k, G', hkg, rfl, hst, hD, hR, hB⟩ := hrel
    have HST := mkHid hst
    have HD := mkHid hD
    have HR := mkHid hR
    have HB := mkHid hB
    have c0 := hD.size
    clear hst hR hB D0 R0 B0
    cases gk with
    | zero =>
      have hlt : ¬ ((k : Int) < (n : Int)) := by omega
      have e : k = n := by omega
      subst e
      clear hD
      go_wp2_with (first | (refine wp_load64 HD.out rfl rfl rfl ?_) | (refine wp_store64 HR.out HD.out.len rfl rfl rfl rfl ?_; intro w2 hD2 hg2))
      exact ret64 rfl hD2 rfl rfl ⟨by rw [HST.out]; rfl, HB.out.grown hg2 HB.out.size (fun q hq => by cases hq; omega)⟩
    | succ g =>
      have hlt : (k : Int) < (n : Int) := by omega
      have hk13 : (k : Int) < 13 := by omega
      have hl := hD.len
      obtain ⟨x, hx⟩ : ∃ x, G'.getD (k * 13 + k) 0 = x := ⟨_, rfl⟩
      have ck := hD.at (i := k) (j := k) (by omega) (by omega) hx
      have HX := mkHid hx
      have HLn := mkHid hl
      clear hD hx hl
      by_cases hneg : x < 0
      · have e : Hid (stI n G n = none) := by
          have h1 : stI n G (k + 1) = none := by rw [stI, HST.out]; simp only [Option.bind_some]; rw [if_pos (by rw [HX.out]; exact hneg)]
          have := stI_dead h1 (n - (k + 1))
          rw [show k + 1 + (n - (k + 1)) = n by omega] at this
          exact mkHid this
        go_wp2
        go_step3
        go_wp2_with (first | (refine wp_load64 HD.out rfl rfl rfl ?_) | (refine wp_store64 HR.out zs_len rfl rfl rfl rfl ?_; intro w2 hD2 hg2))
        rw [Exit.noGoto_ret]
        simp only [Exit.inBlock, Exit.then]
        exact ret64 rfl hD2 rfl rfl ⟨by rw [e.out]; rfl, HB.out.grown hg2 HB.out.size (fun q hq => by cases hq; omega)⟩
      · have HS1 : Hid (stI n G (k + 1) = some (passI n k n G')) := mkHid (by rw [stI, HST.out]; simp only [Option.bind_some]; rw [if_neg (by rw [HX.out]; exact hneg)])
        go_wp2
        go_step3
        go_wp2
        go_step3
        go_wp2
        clear ck c0 HST HX
        go_loopg [22] n (fun g2 s wy => ∃ (i : Nat), i + g2 = n ∧ s = .int .i64 i ∧ Dif wy w.heap.size n (passI n k i G') ∧ Dif wy (w.heap.size + 1) 0 zs ∧ Below w.heap.size w wy)
        case atStart => exact ⟨0, by omega, rfl, HD.out, HR.out, HB.out⟩
        case round =>
          clear HD HR HB
          obtain ⟨i, hig, rfl, hD, hR, hB⟩ := hrel
          have HD := mkHid hD
          have HR := mkHid hR
          have HB := mkHid hB
          have c0 := hD.size
          clear hD hR hB
          cases gk with
          | zero =>
            have hlt2 : ¬ ((i : Int) < (n : Int)) := by omega
            have e : i = n := by omega
            subst e
            go_wp2
            go_roundg g
            case measure => omega
            case rel => exact ⟨k + 1, _, by omega, by go_num, HS1.out, HD.out, HR.out, HB.out⟩
          | succ g2 =>
            have hlt2 : (i : Int) < (n : Int) := by omega
            obtain ⟨P, hP⟩ : ∃ P, passI n k i G' = P := ⟨_, rfl⟩
            have HP : Hid (passI n k (i + 1) G' = rowI n k i P) := mkHid (by rw [← hP]; rfl)
            rw [hP] at HD
            clear hP
            go_wp2
            go_step3
            go_wp2
            go_step3
            go_wp2
            clear c0
            go_loopg [27] n (fun g3 s wz => ∃ (j : Nat), j + g3 = n ∧ s = .int .i64 j ∧ (i = k → j = 0) ∧ Dif wz w.heap.size n (rowS 13 k i j P) ∧ Dif wz (w.heap.size + 1) 0 zs ∧ Below w.heap.size w wz)
            case atStart => exact ⟨0, by omega, rfl, fun _ => rfl, HD.out, HR.out, HB.out⟩
            case round =>
              clear HD HR HB
              obtain ⟨j, hjg, rfl, hik, hD, hR, hB⟩ := hrel
              have HD := mkHid hD
              have HR := mkHid hR
              have HB := mkHid hB
              have HIK := mkHid hik
              clear hR hB hik
              cases gk with
              | zero =>
                have hlt3 : ¬ ((j : Int) < (n : Int)) := by omega
                have e : j = n := by omega
                subst e
                have HE : Hid (rowI j k i P = rowS 13 k i j P) := mkHid (by unfold rowI; rw [if_neg (fun e => by have := HIK.out e; omega)])
                clear hD
                go_wp2
                go_roundg g2
                case measure => omega
                case rel => exact ⟨i + 1, by omega, by go_num, by rw [HP.out, HE.out]; exact HD.out, HR.out, HB.out⟩
              | succ g3 =>
                have hlt3 : (j : Int) < (n : Int) := by omega
                obtain ⟨H, hH⟩ : ∃ H, rowS 13 k i j P = H := ⟨_, rfl⟩
                have HH : Hid (rowS 13 k i (j + 1) P = relax 13 k i j H) := mkHid (by rw [← hH]; rfl)
                have HH0 := mkHid hH
                rw [hH] at HD hD
                clear hH
                obtain ⟨x1, hx1⟩ : ∃ x, H.getD (i * 13 + k) 0 = x := ⟨_, rfl⟩
                obtain ⟨x2, hx2⟩ : ∃ x, H.getD (k * 13 + j) 0 = x := ⟨_, rfl⟩
                obtain ⟨x3, hx3⟩ : ∃ x, H.getD (i * 13 + j) 0 = x := ⟨_, rfl⟩
                have c1 := hD.at (i := i) (j := k) (by omega) (by omega) hx1
                have c2 := hD.at (i := k) (j := j) (by omega) (by omega) hx2
                have c3 := hD.at (i := i) (j := j) (by omega) (by omega) hx3
                have f3 := hD.free (o := 1 + i * 13 + j) (by omega)
                have HR0 : Hid (relax 13 k i j H = if IntKind.i64.wrap (x1 + x2) < x3 then H.set (i * 13 + j) (IntKind.i64.wrap (x1 + x2)) else H) := mkHid (by unfold relax; rw [hx1, hx2, hx3])
                clear hx1 hx2 hx3 hD
                have a0 : (0 : Int) ≤ (i : Int) := by omega
                have a1 : (i : Int) < 13 := by omega
                have a2 : (0 : Int) ≤ (j : Int) := by omega
                have a3 : (j : Int) < 13 := by omega
                have a4 : (0 : Int) ≤ (k : Int) := by omega
                obtain ⟨y, hy⟩ : ∃ y, IntKind.i64.wrap (x1 + x2) = y := ⟨_, rfl⟩
                rw [hy] at HR0
                by_cases hik : i = k
                · have hik' : ((i : Int) == (k : Int)) = true := by rw [beq_iff_eq]; omega
                  have HIE := mkHid hik
                  clear hik
                  go_wp2
                  go_quiet (fail)
                  go_wp2
                  rw [Exit.noGoto_exit]
                  go_wp2
                  go_roundg g2
                  case measure => omega
                  case rel =>
                    have hj0 := HIK.out HIE.out
                    have e1 : H = P := by rw [← HH0.out, hj0]; rfl
                    exact ⟨i + 1, by omega, by go_num, by rw [HP.out]; unfold rowI; rw [if_pos HIE.out, ← e1]; exact HD.out.drewN _, HR.out.drewN _, below_drewN HB.out _⟩
                · have hik' : ((i : Int) == (k : Int)) = false := by rw [beq_eq_false_iff_ne]; omega
                  have HIE := mkHid hik
                  clear hik
                  by_cases hw : y < x3
                  · go_wp2
                    go_quiet (fail)
                    go_wp2
                    go_roundg g3
                    case measure => omega
                    case rel =>
                      refine ⟨j + 1, by omega, by go_num, fun e => absurd e HIE.out, ?_, ?_, ?_⟩
                      · rw [HH.out, HR0.out, if_pos (by omega)]; exact (HD.out.drewN _).put (by omega) (by omega) y
                      · exact (HR.out.drewN _).grown (grown_setCell _ _ _) (by simp)
                      · exact (below_drewN HB.out _).setCell (p := ⟨w.heap.size, 1 + i * 13 + j, none⟩) (Nat.le_refl _) _
                  · go_wp2
                    go_quiet (fail)
                    go_wp2
                    go_roundg g3
                    case measure => omega
                    case rel => exact ⟨j + 1, by omega, by go_num, fun e => absurd e HIE.out, by rw [HH.out, HR0.out, if_neg (by omega)]; exact HD.out.drewN _, HR.out.drewN _, below_drewN HB.out _⟩
end Go.Proofs.YtihpajiololfoaaGreat.Q
namespace Go.Proofs.YtihpajiololfoaaGreat.Q
open Go.RowKit

def D (n : Nat) (o : Option Tab) : Array Value := match o with | some f => dA n (grid n f) | none => dA 0 zs
def okO (z : Int) (l : List Int) : Option Tab := if okF z l = true then some (tab z.toNat l) else none
/-- A table that may be none, of a size that may be, within bounds. -/
def GoodO (n : Nat) (o : Option Tab) : Prop := ∀ f, o = some f → 1 ≤ n ∧ n ≤ 13 ∧ Bd n f 10000000
def FineO (n : Nat) (o : Option Tab) : Prop := ∀ f, o = some f → 1 ≤ n ∧ n ≤ 13 ∧ Fine n f
theorem FineO.good {n : Nat} {o : Option Tab} (h : FineO n o) : GoodO n o := fun f e => ⟨(h f e).1, (h f e).2.1, (h f e).2.2.bd⟩
theorem okO_fine (z : Int) (l : List Int) : FineO z.toNat (okO z l) := fun f e => by
  unfold okO at e
  split at e
  · rename_i h
    obtain ⟨n, rfl, h1, h2, _, _, h3⟩ := ok_of h
    cases e
    simpa using ⟨h1, h2, h3⟩
  · cases e
theorem clo_fineO {n : Nat} {o : Option Tab} (h : FineO n o) : FineO n (o.bind (cloO n)) := fun f e => by
  cases o with
  | none => cases e
  | some g =>
    obtain ⟨h1, h2, h3⟩ := h g rfl
    simp only [Option.bind_some, cloO] at e
    split at e
    · rename_i hc
      cases e
      exact ⟨h1, h2, clo_fine h3 hc⟩
    · cases e
theorem okO_yes {z : Int} {l : List Int} (h : okF z l = true) : okO z l = some (tab z.toNat l) := if_pos h
theorem okO_no {z : Int} {l : List Int} (h : okF z l = false) : okO z l = none := if_neg (by rw [h]; decide)
set_option maxRecDepth 100000 in
theorem diffsD (z : Int) (l : List Int) (a : Option Addr) (c : Nat) (w : World) (hc : l.length ≤ c) (hl : IntsAt w a l) : Calls Tryz.prog 86 #[.agg #[.int .i64 z, .slice a l.length c]] w fun e w' => e = .returned (.agg (D z.toNat (okO z l))) ∧ Below w.heap.size w w' := by
  cases h : okF z l
  · rw [okO_no h]; exact diffsOf_no z l a c w h hl
  · rw [okO_yes h]
    obtain ⟨n, rfl, _⟩ := ok_of h
    exact diffsOf_yes n l a c w h hc hl
set_option maxRecDepth 100000 in
theorem closedD (n : Nat) (o : Option Tab) (ho : GoodO n o) (w : World) : Calls Tryz.prog 87 #[.agg (D n o)] w fun e w' => e = .returned (.agg (D n (o.bind (cloO n)))) ∧ Below w.heap.size w w' := by
  cases o with
  | none => exact closed_any 0 (by omega) zs zs_len w
  | some f =>
    obtain ⟨_, h2, h3⟩ := ho f rfl
    have := closed_any n h2 (grid n f) (grid_len n f) w
    rw [impl_close h2 h3] at this
    refine this.mono fun e w' h => ⟨?_, h.2⟩
    rw [h.1]
    simp only [Option.bind_some, cloO]
    split <;> rfl
set_option maxRecDepth 100000 in
theorem sCloseD (n : Nat) (f : Tab) (h1 : 1 ≤ n) (h2 : n ≤ 13) (hb : Bd n f 10000000) (a : Option Addr) (c : Nat) (w : World) (hA : IntsAt w a (mk n f)) : Calls Tryz.prog 126 #[.int .i64 n, .slice a (mk n f).length c] w fun e w' => Gives w w' e (outZ (cloO n f) n) (outL (cloO n f) n) := by
  have := sClose_of n h1 h2 (mk n f) (mk_len n f) a c w hA
  rw [spec_close h1 h2 hb] at this
  refine this.mono fun e w' h => ?_
  unfold cloO
  split
  · rename_i hc
    rw [if_pos hc] at h
    exact h
  · rename_i hc
    rw [if_neg hc] at h
    exact h
theorem Gives.shut {w w4 w5 : World} {b : Nat} {ao : Option Addr} {cap : Nat} {l : List Int} (hbel : Below w.heap.size w w4) (hb : w.heap.size ≤ b) (hb4 : b < w4.heap.size) (h : OwnI w5 w4.heap.size (.slice ao l.length cap) l) (h5 : Below w4.heap.size w4 w5) (v0 v1 : Value) :
    OwnI ((w5.setCell ⟨b, 0, none⟩ v0).setCell ⟨b, 1, none⟩ v1) w.heap.size (.slice ao l.length cap) l ∧ Below w.heap.size w ((w5.setCell ⟨b, 0, none⟩ v0).setCell ⟨b, 1, none⟩ v1) := by
  have hlo : ∀ q, Value.ownBlock (.slice ao l.length cap) = some q → some b ≠ some q := fun q hq => some_ne (by have := h.lt hq; omega)
  exact ⟨((h.mono hbel.size).grown (grown_setCell _ ⟨b, 0, none⟩ _) hlo).grown (grown_setCell _ ⟨b, 1, none⟩ _) hlo, ((below_step hbel h5).setCell (p := ⟨b, 0, none⟩) hb _).setCell (p := ⟨b, 1, none⟩) hb _⟩
theorem Gives.mono {w w1 w' : World} {e : Ending} {z : Int} {l : List Int} (h : Gives w1 w' e z l) (hb : Below w.heap.size w w1) : Gives w w' e z l := by
  obtain ⟨ao, cap, h1, h2, h3⟩ := h
  exact ⟨ao, cap, h1, h2.mono hb.size, below_step hb h3⟩
end Go.Proofs.YtihpajiololfoaaGreat.Q
namespace Go.Proofs.YtihpajiololfoaaGreat.Q
open Go.RowKit

/-- Nothing is answered: the block as it was made. -/
theorem none_shut {w w1 : World} {b : Nat} (hB : Below w.heap.size w w1) (hb : w.heap.size ≤ b) (v0 v1 : Value) : Below w.heap.size w ((w1.setCell ⟨b, 0, none⟩ v0).setCell ⟨b, 1, none⟩ v1) :=
  (hB.setCell (p := ⟨b, 0, none⟩) hb _).setCell (p := ⟨b, 1, none⟩) hb _
set_option maxRecDepth 100000 in
set_option maxHeartbeats 800000 in
theorem sClose_any (z : Int) (l : List Int) (a : Option Addr) (c : Nat) (w : World) (hl : IntsAt w a l) : Calls Tryz.prog 75 #[.agg #[.int .i64 z, .slice a l.length c]] w fun e w' => Gives w w' e (outZ ((okO z l).bind (cloO z.toNat)) z.toNat) (outL ((okO z l).bind (cloO z.toNat)) z.toNat) := by
  have HL := mkHid hl
  have B0 := mkHid (((Below.refl w.heap.size w).alloc (Nat.le_refl _) (.cells #[.int .i64 z, .slice a l.length c] 38)).alloc (by simp) (.cells #[.int .i64 0, .slice none 0 0] 38))
  have Z0 := mkHid (Fz.new (w.alloc (.cells #[.int .i64 z, .slice a l.length c] 38)))
  have T0 := mkHid ((Fc.new w z a l.length c 38).alloc (.cells #[.int .i64 0, .slice none 0 0] 38))
  cases hok : okF z l
  · have e1 : Hid (outZ ((okO z l).bind (cloO z.toNat)) z.toNat = 0 ∧ outL ((okO z l).bind (cloO z.toNat)) z.toNat = []) := mkHid (by rw [okO_no hok]; exact ⟨rfl, rfl⟩)
    rw [e1.out.1, e1.out.2]
    have HOK := mkHid hok
    clear hok hl
    go_enter Tryz.func75, Tryz.ntmps75
    go_wp2_with fail
    refine (sOkF_any z l a c _ (HL.out.below B0.out)).mono ?_
    rintro e w1 ⟨rfl, hb1⟩
    rw [HOK.out]
    have B1 := mkHid (below_step B0.out hb1)
    have Z1 : Hid (Fz w1 (w.heap.size + 1)) := mkHid (by have := Z0.out.below hb1; simpa using this)
    obtain ⟨⟨z0, z1⟩, z2, z3⟩ := Z1.out
    clear hb1
    go_wp2
    exact bodyPost_ret (v := .agg #[.int .i64 0, .slice none 0 0]) (by simp [results, Tryz.results75, go_sem, z0, z1]) rfl ⟨none, 0, rfl, OwnI.nil _ _, none_shut B1.out (Nat.le_succ _) _ _⟩
  · obtain ⟨n, hn, h1, h2, hll, hmk, hfine⟩ := ok_of hok
    subst hn
    have e1 : Hid (okO n l = some (tab n l)) := mkHid (okO_yes hok)
    have HC : Hid (∀ v, IntsAt v a l → Calls Tryz.prog 126 #[.int .i64 n, .slice a l.length c] v fun e w' => Gives v w' e (outZ (cloO n (tab n l)) n) (outL (cloO n (tab n l)) n)) := mkHid fun v hv => by
      have := sCloseD n (tab n l) h1 h2 hfine.bd a c v (by rw [← hmk]; exact hv)
      rwa [← hmk] at this
    rw [show ((n : Int)).toNat = n from Int.toNat_natCast n, e1.out]
    simp only [Option.bind_some]
    obtain ⟨o, ho⟩ : ∃ o, cloO n (tab n l) = o := ⟨_, rfl⟩
    rw [ho] at HC
    rw [ho]
    have HOK := mkHid hok
    clear hok hl hmk hfine hll ho e1
    go_enter Tryz.func75, Tryz.ntmps75
    go_wp2_with fail
    refine (sOkF_any n l a c _ (HL.out.below B0.out)).mono ?_
    rintro e w1 ⟨rfl, hb1⟩
    rw [HOK.out]
    have B1 := mkHid (below_step B0.out hb1)
    have Z1 : Hid (Fz w1 (w.heap.size + 1)) := mkHid (by have := Z0.out.below hb1; simpa using this)
    obtain ⟨t0, t1⟩ := T0.out.below hb1
    clear hb1
    go_wp2_with fail
    refine (HC.out _ (HL.out.below B1.out)).mono ?_
    rintro e w3 ⟨ao, cap, rfl, ho, hb3⟩
    obtain ⟨⟨z0, z1⟩, z2, z3⟩ := Z1.out.below hb3
    have HE := mkHid (fun v0 v1 => Gives.shut (b := w.heap.size + 1) B1.out (Nat.le_succ _) Z1.out.lt ho hb3 v0 v1)
    clear hb3 ho t0 t1
    go_wp2
    exact bodyPost_ret (v := .agg #[.int .i64 (outZ o n), .slice ao (outL o n).length cap]) (by simp [results, Tryz.results75, go_sem, z0, z1]) rfl ⟨ao, cap, rfl, (HE.out _ _).1, (HE.out _ _).2⟩
end Go.Proofs.YtihpajiololfoaaGreat.Q
namespace Go.Proofs.YtihpajiololfoaaGreat
open Go.RowKit

def sV3 (A : SAd) (S : SG) : List Value := [.slice A.a0 S.B.length A.c0, .slice A.a1 S.V.length A.c1, .slice A.a2 S.M.length A.c2]
def sL (z lv : Int) (A : SAd) (S : SG) (n : Int) (G : List Int) : List Value := .int .i64 z :: .int .i64 lv :: (sV3 A S ++ Q.dL n G)
def sA (z lv : Int) (A : SAd) (S : SG) (n : Int) (G : List Int) : Array Value := (sL z lv A S n G).toArray
def zSG : SG := ⟨[], [], []⟩
def zAd : SAd := ⟨none, 0, none, 0, none, 0⟩
theorem info82 : (Tryz.prog.info? 82).map (fun i => (i.zero, i.size)) = some (some (.agg (sA 0 0 zAd zSG 0 Q.zs)), 175) := by kernel_rfl
theorem size82 : (Tryz.prog.info? 82).map (·.size) = some 175 := (zero_of_info info82).2
theorem lit169 {G : List Int} (h : G.length = 169) : (List.range 169).map (fun i => G.getD i 0) = G := by
  apply List.ext_getElem?
  intro i
  by_cases hi : i < 169
  · rw [List.getElem?_map, List.getElem?_range hi, List.getElem?_eq_getElem (by omega)]
    simp [List.getD_eq_getElem?_getD, h, hi]
  · rw [List.getElem?_eq_none (by simp; omega), List.getElem?_eq_none (by omega)]
theorem built82' (z lv n : Int) (A : SAd) (S : SG) (G : List Int) : Tryz.prog.built 82 [(0, .int .i64 z), (1, .int .i64 lv), (2, .agg #[.slice A.a0 S.B.length A.c0, .slice A.a1 S.V.length A.c1, .slice A.a2 S.M.length A.c2]), (3, .agg (Q.dA n ((List.range 169).map (fun i => G.getD i 0))))] = some (sA z lv A S n ((List.range 169).map (fun i => G.getD i 0))) := by kernel_rfl
theorem built82 (z lv n : Int) (A : SAd) (S : SG) {G : List Int} (h : G.length = 169) : Tryz.prog.built 82 [(0, .int .i64 z), (1, .int .i64 lv), (2, .agg #[.slice A.a0 S.B.length A.c0, .slice A.a1 S.V.length A.c1, .slice A.a2 S.M.length A.c2]), (3, .agg (Q.dA n G))] = some (sA z lv A S n G) := by
  have := built82' z lv n A S G
  rwa [lit169 h] at this
theorem built82z : Tryz.prog.built 82 [] = some (sA 0 0 zAd zSG 0 Q.zs) := by kernel_rfl
theorem sL_len {z lv : Int} {A : SAd} {S : SG} {n : Int} {G : List Int} (h : G.length = 169) : (sL z lv A S n G).length = 175 := by simp [sL, sV3, Q.dL_len h]
theorem sA_size {z lv : Int} {A : SAd} {S : SG} {n : Int} {G : List Int} (h : G.length = 169) : (sA z lv A S n G).size = 175 := by simp [sA, sL_len h]
theorem sL_one {z lv : Int} {A : SAd} {S : SG} {n : Int} {G : List Int} : ∀ v ∈ sL z lv A S n G, v.oneCell' = true := by
  intro v hv
  simp only [sL, sV3, List.mem_cons, List.mem_append] at hv
  rcases hv with rfl | rfl | (rfl | rfl | rfl | h) | h
  · rfl
  · rfl
  · rfl
  · rfl
  · rfl
  · cases h
  · exact Q.dL_one v h
/-- A site in a block that may be written. -/
structure St (w : World) (b : Nat) (z lv : Int) (A : SAd) (S : SG) (n : Int) (G : List Int) : Prop where
  len : G.length = 169
  range : w.rangeAt b 0 (sL z lv A S n G)
  there : w.there b 0 175
section
variable {w w' : World} {b : Nat} {z lv : Int} {A : SAd} {S : SG} {n : Int} {G : List Int}
theorem St.c0 (h : St w b z lv A S n G) : w.cell? ⟨b, 0, none⟩ = some (.int .i64 z) := by simpa using h.range 0 _ rfl
theorem St.c1 (h : St w b z lv A S n G) : w.cell? ⟨b, 1, none⟩ = some (.int .i64 lv) := by simpa using h.range 1 _ rfl
theorem St.c2 (h : St w b z lv A S n G) : w.cell? ⟨b, 2, none⟩ = some (.slice A.a0 S.B.length A.c0) := by simpa using h.range 2 _ rfl
theorem St.c3 (h : St w b z lv A S n G) : w.cell? ⟨b, 3, none⟩ = some (.slice A.a1 S.V.length A.c1) := by simpa using h.range 3 _ rfl
theorem St.c4 (h : St w b z lv A S n G) : w.cell? ⟨b, 4, none⟩ = some (.slice A.a2 S.M.length A.c2) := by simpa using h.range 4 _ rfl
theorem St.c5 (h : St w b z lv A S n G) : w.cell? ⟨b, 5, none⟩ = some (.int .i64 n) := by simpa using h.range 5 _ rfl
theorem St.lt (h : St w b z lv A S n G) : b < w.heap.size := World.block_lt_of_cell? w _ h.c0
theorem St.known (h : St w b z lv A S n G) : w.rangeAt b 5 (Q.dL n G) := fun j v hv => by
  have := h.range (5 + j) v (by rw [Nat.add_comm]; simpa [sL, sV3] using hv)
  rw [Nat.zero_add] at this
  exact this
theorem St.below (h : St w b z lv A S n G) (hb : Below w.heap.size w w') : St w' b z lv A S n G :=
  ⟨h.len, fun j v hv => (hb.cell (p := ⟨b, 0 + j, none⟩) h.lt).trans (h.range j v hv), fun j hj => by rw [hb.cell (p := ⟨b, 0 + j, none⟩) h.lt, hb.frozen (p := ⟨b, 0 + j, none⟩) h.lt]; exact h.there j hj⟩
theorem St.new (w : World) (z lv : Int) (A : SAd) (S : SG) (n : Int) {G : List Int} (h : G.length = 169) (T : TypeId) : St (w.alloc (.cells (sA z lv A S n G) T)) w.heap.size z lv A S n G := by
  have hc : ∀ j, (w.alloc (.cells (sA z lv A S n G) T)).cell? ⟨w.heap.size, 0 + j, none⟩ = (sL z lv A S n G)[j]? := fun j => by rw [Nat.zero_add, World.cell?_alloc_new]; simp [sA]
  refine ⟨h, fun j v hv => (hc j).trans hv, fun j hj => ⟨by rw [hc, List.getElem?_eq_getElem (by rw [sL_len h]; exact hj)]; rfl, by simp [go_sem]⟩⟩
theorem St.load (h : St w b z lv A S n G) : (Instr.loadAt 82 (.pointer (some ⟨b, 0, none⟩))).run Tryz.prog w = .ok (.agg (sA z lv A S n G)) w :=
  run_loadAt_mid w b 0 82 (sL z lv A S n G) _ h.range Tryz.underlying82 rfl (by rw [sL_len h.len]; exact size82)
theorem St.loadVar (h : St w b z lv A S n G) : (loadVar 82 ⟨b, 0, none⟩).run Tryz.prog w = .ok (.agg (sA z lv A S n G)) w :=
  run_loadVar_mid w b 0 82 (sL z lv A S n G) _ h.range Tryz.underlying82 rfl (by rw [sL_len h.len]; exact size82)
theorem St.stored {z' lv' : Int} {A' : SAd} {S' : SG} {n' : Int} {G' : List Int} (h : St w b z lv A S n G) (h' : G'.length = 169) : St (w.setCells b 0 (sL z' lv' A' S' n' G')) b z' lv' A' S' n' G' :=
  ⟨h', World.rangeAt_setCells_same w b 0 _ (by rw [sL_len h']; exact h.there), World.there_setCells h.there b 0 _⟩
theorem St.grown {row : Option Nat} (h : St w b z lv A S n G) (hg : w.grownBy w' row) (hr : some b ≠ row) : St w' b z lv A S n G := by
  have e := hg.block b h.lt hr
  exact ⟨h.len, fun j v hv => (World.cell?_of_block (w := w) (w' := w') (a := ⟨b, 0 + j, none⟩) e).trans (h.range j v hv), fun j hj => by
    rw [World.cell?_of_block (w := w) (w' := w') (a := ⟨b, 0 + j, none⟩) e, World.frozen?_of_block (w := w) (w' := w') (a := ⟨b, 0 + j, none⟩) e]; exact h.there j hj⟩
theorem wp_load82 {ops : Array Oper} {rest : List Oper} {op : Oper} {a : Act} {Q' : Exit → Act → World → Prop} {x : Operand} (hD : St w b z lv A S n G) (hgd : op.guard = none) (ho : op.op = .load 82 x)
    (hx : a.eval x = .pointer (some ⟨b, 0, none⟩)) (h : wpList Tryz.prog ops Q' rest (a.put op.dst (.agg (sA z lv A S n G))) w) : wpList Tryz.prog ops Q' (op :: rest) a w :=
  wpList_load_mid hgd 82 x ho b 0 hx (sL z lv A S n G) _ hD.range Tryz.underlying82 rfl (by rw [sL_len hD.len]; exact size82) h
theorem wp_store82 {ops : Array Oper} {rest : List Oper} {op : Oper} {a : Act} {Q' : Exit → Act → World → Prop} {x y : Operand} {z' lv' : Int} {A' : SAd} {S' : SG} {n' : Int} {G' : List Int} (hD : St w b z lv A S n G) (h' : G'.length = 169) (hgd : op.guard = none) (ho : op.op = .store 82 x y)
    (hx : a.eval x = .pointer (some ⟨b, 0, none⟩)) (hy : a.eval y = .agg (sA z' lv' A' S' n' G')) (h : ∀ w2, St w2 b z' lv' A' S' n' G' → w.grownBy w2 (some b) → wpList Tryz.prog ops Q' rest (a.put op.dst undef) w2) : wpList Tryz.prog ops Q' (op :: rest) a w :=
  wpList_store_mid hgd 82 x y ho b 0 (sA z' lv' A' S' n' G') hx hy (by rw [sA_size h']; exact hD.there) (by rw [sA_size h']; exact size82) (all_oneCell_toArray sL_one) (h _ (hD.stored h') (Q.grown_setCells b _ 0 w))
theorem wpo_store82 {op : Oper} {a : Act} {K : Act → World → Prop} {Q' : Exit → Act → World → Prop} {x y : Operand} {z' lv' : Int} {A' : SAd} {S' : SG} {n' : Int} {G' : List Int} (hD : St w b z lv A S n G) (h' : G'.length = 169) (ho : op.op = .store 82 x y)
    (hx : a.eval x = .pointer (some ⟨b, 0, none⟩)) (hy : a.eval y = .agg (sA z' lv' A' S' n' G')) (h : ∀ w2, St w2 b z' lv' A' S' n' G' → w.grownBy w2 (some b) → K (a.put op.dst undef) w2) : op.wp Tryz.prog a w K Q' :=
  wp_store_mid 82 x y ho b 0 (sA z' lv' A' S' n' G') hx hy (by rw [sA_size h']; exact hD.there) (by rw [sA_size h']; exact size82) (all_oneCell_toArray sL_one) (h _ (hD.stored h') (Q.grown_setCells b _ 0 w))
theorem wpo_build82 {op : Oper} {a : Act} {K : Act → World → Prop} {Q' : Exit → Act → World → Prop} {x0 x1 x2 x3 : Operand} (hG : G.length = 169) (ho : op.op = .build 82 #[(0, x0), (1, x1), (2, x2), (3, x3)])
    (h0 : a.eval x0 = .int .i64 z) (h1 : a.eval x1 = .int .i64 lv) (h2 : a.eval x2 = .agg #[.slice A.a0 S.B.length A.c0, .slice A.a1 S.V.length A.c1, .slice A.a2 S.M.length A.c2]) (h3 : a.eval x3 = .agg (Q.dA n G))
    (h : K (a.put op.dst (.agg (sA z lv A S n G))) w) : op.wp Tryz.prog a w K Q' := by
  have hr := run_build (P := Tryz.prog) w 82 #[(0, .int .i64 z), (1, .int .i64 lv), (2, .agg #[.slice A.a0 S.B.length A.c0, .slice A.a1 S.V.length A.c1, .slice A.a2 S.M.length A.c2]), (3, .agg (Q.dA n G))] _ (built82 z lv n A S hG)
  unfold Oper.wp execOp
  simp only [ho, h0, h1, h2, h3, List.map_toArray, List.map_cons, List.map_nil, Sem.run_bind, Sem.run_pure, Result.andThen_ok, hr]
  exact h
theorem wp_build82z {ops : Array Oper} {rest : List Oper} {op : Oper} {a : Act} {Q' : Exit → Act → World → Prop} (hgd : op.guard = none) (ho : op.op = .build 82 #[])
    (h : wpList Tryz.prog ops Q' rest (a.put op.dst (.agg (sA 0 0 zAd zSG 0 Q.zs))) w) : wpList Tryz.prog ops Q' (op :: rest) a w :=
  wpList_plain hgd fun _ hK => by
    have hr := run_build (P := Tryz.prog) w 82 #[] _ built82z
    unfold Oper.wp execOp
    simp only [ho, List.map_toArray, List.map_nil, Sem.run_bind, Sem.run_pure, Result.andThen_ok, hr]
    exact hK _ _ h
theorem zc82 : Tryz.zeroCells82 = sA 0 0 zAd zSG 0 Q.zs := by kernel_rfl
theorem St.newz (w : World) : St (w.alloc (.cells Tryz.zeroCells82 82)) w.heap.size 0 0 zAd zSG 0 Q.zs := by rw [zc82]; exact St.new w _ _ _ _ _ Q.zs_len 82
end
end Go.Proofs.YtihpajiololfoaaGreat
