/-
  CONTRACT of the specification's SymRead.
-/
import Derived.Test.YtiihjoliodemmaaDoorSrp
import Derived.Test.YtiihjoliodemmaaDoorRs
import Derived.Test.YtiihjoliodemmaaDoorSrr
import Derived.Test.YtiihjoliodemmaaDoorRp
import Derived.Test.YtiihjoliodemmaaDoorStz
import Derived.Deep.QuietTactic
import Derived.BigQuiet
namespace Go.Proofs.YtiihjoliodemmaaDoor
open Go.RowKit
open Go.Lib (itoa)

theorem list_form {q : List UInt8} {a b c a' b' c' : UInt8} (h0 : q[0]? = some a) (h1 : q[1]? = some b) (h2 : q[2]? = some c) (e0 : a = a') (e1 : b = b') (e2 : c = c') : q = a' :: b' :: c' :: q.drop 3 := by
  subst e0 e1 e2
  match q, h0, h1, h2 with
  | x :: y :: z :: r, h0, h1, h2 => simp at h0 h1 h2; subst h0 h1 h2; rfl
theorem form_of {q : List UInt8} (hne : q ≠ []) {c : Int} (c0 : -1000 ≤ c) (c1 : c ≤ 1000) (e : q = tailL c) : ∃ (sg b : UInt8) (r : List UInt8) (k : Int), q = 32 :: sg :: 32 :: b :: r ∧ (sg = 43 ∨ sg = 45) ∧ b ≠ 45 ∧ b :: r = itoa k ∧ 1 ≤ k ∧ k ≤ 1000 := by
  by_cases hc : c = 0
  · subst hc; exact absurd e hne
  · obtain ⟨sg, b, r, k, h1, h2, h3, h4, h5, h6, h7, h8⟩ := tail_form hc
    refine ⟨sg, b, r, k, e.trans h1, h2, fun q => by subst q; revert h3; decide, h6, h5, ?_⟩
    rcases h2 with rfl | rfl
    · have := h8 rfl; omega
    · have := h7 rfl; omega
theorem ne_fact {x : UInt8} {n : Nat} (h : ((x.toNat : Int) != n) = true) : x.toNat ≠ n := by intro e; rw [e] at h; simp at h
theorem eq_fact {x : UInt8} {n : Nat} (h : ((x.toNat : Int) == n) = true) : x.toNat = n := by have := beq_iff_eq.1 h; omega
theorem eq_fact2 {x : UInt8} {n : Nat} (h : ((x.toNat : Int) != n) = false) : x.toNat = n := by
  have : ((x.toNat : Int) == n) = true := by simpa [bne] using h
  exact eq_fact this
set_option maxRecDepth 100000 in
set_option maxHeartbeats 6400000 in
theorem sSymRead_of (s : ByteArray) (l : List ByteArray) (b off cap : Nat) (w : World) (hs : s.size ≤ 1048576) (hF : Fit l 1048576) (hl : StrsIn w l b off) : Calls Tryd.prog 25 #[.string s, .slice (some ⟨b, off, none⟩) l.length cap] w fun e w' => ∃ r, e = .returned (retR r) ∧ ReadsS l s.data.toList r ∧ Below w.heap.size w w' := by
  have HF := mkHid hF
  have HL := mkHid hl
  have hn := hF.1
  clear hF hl
  have BE := mkHid ((Below.refl w.heap.size w).alloc (Nat.le_refl _) (.cells #[.int .i64 0, .int .i64 0] 44))
  have BX := mkHid (Box.new w 0 0 44)
  go_enter Tryd.func25, Tryd.ntmps25
  go_wp2_with fail
  refine (sLabels_of l b off cap _ HF.out (HL.out.below BE.out)).mono ?_
  rintro e w1 ⟨rfl, hb⟩
  have BE := mkHid (below_step BE.out hb)
  have BX := mkHid (BX.out.below hb)
  clear hb
  obtain ⟨x0, x1, x2, x3⟩ := BX.out
  have hBE := BE.out
  cases hlab : (decide (l.length < 13) && labsB l)
  · have HN := mkHid (readS_labs (t := s.data.toList) hlab)
    go_wp2
    exact bodyPost_ret (v := retR none) (by simp [results, Tryd.results25, go_sem, retR, *]) rfl ⟨_, rfl, HN.out, (by repeat (first | with_reducible exact Below.refl _ _ | (with_reducible refine bl_set2 ?_ ?_ _; (first | (simp; done) | (simp [*]; done) | (simp [*] <;> omega))) | with_reducible refine bl_drew ?_ | with_reducible refine bl_alloc ?_ _ | with_reducible refine below_step ?_ (by assumption) | with_reducible assumption))⟩
  have HLB := mkHid hlab
  clear hlab
  go_wp2_with fail
  refine (sInt_any s 1000 _ (by omega) (by omega) (by omega)).mono ?_
  rintro e w2 ⟨r, rfl, hr, rfl⟩
  have HR := mkHid hr
  clear hr
  cases r with
  | some n =>
    have HN := mkHid (readS_num HLB.out HR.out)
    clear HR
    go_wp2
    exact bodyPost_ret (v := retR (some (0, n))) (by simp [results, Tryd.results25, go_sem, retR, *]) rfl ⟨_, rfl, HN.out, (by repeat (first | with_reducible exact Below.refl _ _ | (with_reducible refine bl_set2 ?_ ?_ _; (first | (simp; done) | (simp [*]; done) | (simp [*] <;> omega))) | with_reducible refine bl_drew ?_ | with_reducible refine bl_alloc ?_ _ | with_reducible refine below_step ?_ (by assumption) | with_reducible assumption))⟩
  | none =>
    have HF0 := mkHid (from_zero (l := l) HR.out)
    clear HR
    go_wp2_with fail
    go_loopw [8, 9, 10, 11, 12] (fun i s9 s10 s11 s12 wr => ∃ u : Nat, u ≤ l.length ∧ i = .int .i64 u ∧ From l s.data.toList u ∧ Below w.heap.size w wr ∧ Box wr w.heap.size 0 0) (fun i _ _ _ _ _ => l.length - (RowKit.intOf i).toNat)
    case atStart => exact ⟨0, Nat.zero_le _, rfl, HF0.out, BE.out, BX.out⟩
    case round =>
      obtain ⟨u, hu, rfl, hfr, hbe, hbx⟩ := hrel
      have HFR := mkHid hfr
      have BE := mkHid hbe
      have BX := mkHid hbx
      clear hfr hbe hbx HF0 x0 x1 x2 x3 hBE
      by_cases hlt : u < l.length
      · obtain ⟨x, hx⟩ : ∃ x, l[u]? = some x := ⟨_, List.getElem?_eq_getElem hlt⟩
        have c1 := (HL.out.below BE.out) u x hx
        have hxs := HF.out.2 u x hx
        have HNM := mkHid (show nmAt l ((u : Int) + 1) = x by unfold nmAt; rw [show ((u : Int) + 1 - 1).toNat = u by omega, List.getD_eq_getElem?_getD, hx]; rfl)
        clear hx
        have k2 : (0 : Int) ≤ (u : Int) := by omega
        have k3 : (u : Int) < (l.length : Int) := by omega
        have HNO : Hid ((∀ c, -1000 ≤ c → c ≤ 1000 → s.data.toList ≠ x.data.toList ++ tailL c) → From l s.data.toList (u + 1)) := mkHid fun h => from_next HFR.out (fun c c0 c1 => by rw [HNM.out]; exact h c c0 c1)
        by_cases hsl : s.size < x.size
        · have hsl' : (s.size : Int) < (x.size : Int) := by omega
          have HN := mkHid (HNO.out (fun c _ _ => no_pre (.inl (by rw [ba_len, ba_len]; exact hsl)) c))
          go_wp2_with fail
          go_quiet (fail)
          go_wp2
          go_roundw
          case rel => exact ⟨u + 1, by omega, by go_num, HN.out, below_step BE.out (below_drewN _ _), BX.out.below (below_drewN _ _)⟩
          case measure => simp [RowKit.intOf]; omega
        · have hsl' : ¬ (s.size : Int) < (x.size : Int) := by omega
          have hle : x.size ≤ s.size := by omega
          cases hpx : ((s.extract 0 x.size).toList == x.toList)
          · have hpn : ((s.extract 0 x.size).toList != x.toList) = true := by simp only [bne, hpx]; rfl
            have HN := mkHid (HNO.out (fun c _ _ => no_pre (.inr (fun e => by rw [ByteArray.toList_eq, ByteArray.toList_eq, Lib.extract_data, List.drop_zero, Nat.sub_zero, ← ba_len x, e] at hpx; simp at hpx)) c))
            go_wp2_with fail
            go_quiet (fail)
            go_wp2
            go_roundw
            case rel => exact ⟨u + 1, by omega, by go_num, HN.out, below_step BE.out (below_drewN _ _), BX.out.below (below_drewN _ _)⟩
            case measure => simp [RowKit.intOf]; omega
          · have hpn : ((s.extract 0 x.size).toList != x.toList) = false := by simp only [bne, hpx]; rfl
            have HSP := mkHid (show s.data.toList = x.data.toList ++ s.data.toList.drop x.size by have e := beq_iff_eq.1 hpx; rw [ByteArray.toList_eq, ByteArray.toList_eq, Lib.extract_data, List.drop_zero, Nat.sub_zero, ← ba_len x] at e; rw [← ba_len x]; exact pre_split e)
            go_wp2_with fail
            go_quiet (fail)
            go_upto_region 12 with fail
            have BE2 := mkHid (below_step BE.out (below_drewN wr nq))
            have BX2 := mkHid (BX.out.below (below_drewN wr nq))
            generalize wr.drewN nq = wq at *
            obtain ⟨rs, hrs⟩ : ∃ rs, s.extract x.size s.size = rs := ⟨_, rfl⟩
            have HRL : Hid (s.data.toList = x.data.toList ++ rs.data.toList) := mkHid (by rw [← hrs, Lib.extract_to_end]; exact HSP.out)
            have hrsz : rs.size ≤ 1048576 := by rw [← hrs]; simp; omega
            rw [hrs]
            clear hrs HSP hpx hpn c1 hxs BE BX
            have HNT : Hid ((∀ c, -1000 ≤ c → c ≤ 1000 → rs.data.toList ≠ tailL c) → From l s.data.toList (u + 1)) := mkHid fun h => HNO.out (fun c c0 c1 e => h c c0 c1 (List.append_cancel_left (HRL.out.symm.trans e)))
            have HHIT : Hid (∀ c, -1000 ≤ c → c ≤ 1000 → rs.data.toList = tailL c → ReadsS l s.data.toList (some ((u : Int) + 1, c))) := mkHid fun c c0 c1 e => from_hit HLB.out HFR.out hlt c0 c1 (by rw [HNM.out, HRL.out, e])
            clear HNO HRL HFR
            obtain ⟨x0, x1, x2, x3⟩ := BX2.out
            have hBE := BE2.out
            by_cases hre : rs.data.toList = []
            · have hem := ba_yes hre
              have HN := mkHid (HHIT.out 0 (by omega) (by omega) hre)
              go_wp2
              exact bodyPost_ret (v := retR (some ((u : Int) + 1, 0))) (by simp [results, Tryd.results25, go_sem, retR, *]) rfl ⟨_, rfl, HN.out, (by repeat (first | with_reducible exact Below.refl _ _ | (with_reducible refine bl_set2 ?_ ?_ _; (first | (simp; done) | (simp [*]; done) | (simp [*] <;> omega))) | with_reducible refine bl_drew ?_ | with_reducible refine bl_alloc ?_ _ | with_reducible refine below_step ?_ (by assumption) | with_reducible assumption))⟩
            · have hem := ba_not hre
              by_cases h4 : rs.size < 4
              · have h4' : (rs.size : Int) < 4 := by omega
                have HN := mkHid (HNT.out (fun c c0 c1 e => by obtain ⟨sg, b, r, k, f1, f2, f3, f4, f5, f6⟩ := form_of hre c0 c1 e; have := ba_len rs; rw [f1] at this; simp at this; omega))
                go_wp2
                go_roundw
                case rel => exact ⟨u + 1, by omega, by go_num, HN.out, BE2.out, BX2.out⟩
                case measure => simp [RowKit.intOf]; omega
              · have h4' : ¬ (rs.size : Int) < 4 := by omega
                have p0 : 0 < rs.size := by omega
                have p1 : 1 < rs.size := by omega
                have p2 : 2 < rs.size := by omega
                have p3 : 3 < rs.size := by omega
                have g0 := mkHid (ba_get p0)
                have g1 := mkHid (ba_get p1)
                have g2 := mkHid (ba_get p2)
                have g3 := mkHid (ba_get p3)
                cases q0 : ((((rs[0]'p0).toNat : Nat) : Int) != 32)
                · cases q1 : ((((rs[1]'p1).toNat : Nat) : Int) != 43)
                  · cases q2 : ((((rs[2]'p2).toNat : Nat) : Int) != 32)
                    · cases q3 : ((((rs[3]'p3).toNat : Nat) : Int) == 45)
                      · have t3 : (rs.extract 3 rs.size).data.toList = rs.data.toList.drop 3 := Lib.extract_to_end rs 3
                        have HT3 := mkHid t3
                        clear t3
                        have h3l : 3 ≤ rs.size := by omega
                        go_wp2_with fail
                        refine (sInt_any (rs.extract 3 rs.size) 1000 _ (by simp; omega) (by omega) (by omega)).mono ?_
                        rintro e w5 ⟨r2, rfl, hr2, rfl⟩
                        rw [HT3.out] at hr2
                        have HR2 := mkHid hr2
                        clear hr2 HT3
                        cases r2 with
                        | none =>
                          have HN := mkHid (HNT.out (fun c c0 c1 e => by obtain ⟨sg, b, r, k, f1, f2, f3, f4, f5, f6⟩ := form_of hre c0 c1 e; rw [f1] at HR2; exact HR2.out k (by omega) f6 f4))
                          go_wp2
                          go_roundw
                          case rel => exact ⟨u + 1, by omega, by go_num, HN.out, BE2.out, BX2.out⟩
                          case measure => simp [RowKit.intOf]; omega
                        | some n =>
                          by_cases hpos : 0 < n
                          · have HEQ : Hid (rs.data.toList = tailL n) := mkHid (by have e1 := HR2.out.1; have e2 : rs.data.toList = 32 :: 43 :: 32 :: rs.data.toList.drop 3 := list_form g0.out g1.out g2.out (UInt8.toNat_inj.1 (eq_fact2 (n := 32) q0)) (UInt8.toNat_inj.1 (eq_fact2 (n := 43) q1)) (UInt8.toNat_inj.1 (eq_fact2 (n := 32) q2)); rw [e2]; have := tail_mk (sg := 43) (k := n) (by omega) e1 (.inl rfl); simpa using this)
                            have HN := mkHid (HHIT.out n (by have := HR2.out.2; omega) (by have := HR2.out.2; omega) HEQ.out)
                            have qe : ((((rs[1]'p1).toNat : Nat) : Int) == 45) = false := by have := eq_fact2 (n := 43) q1; rw [this]; rfl
                            go_wp2
                            exact bodyPost_ret (v := retR (some ((u : Int) + 1, n))) (by simp [results, Tryd.results25, go_sem, retR, *]) rfl ⟨_, rfl, HN.out, (by repeat (first | with_reducible exact Below.refl _ _ | (with_reducible refine bl_set2 ?_ ?_ _; (first | (simp; done) | (simp [*]; done) | (simp [*] <;> omega))) | with_reducible refine bl_drew ?_ | with_reducible refine bl_alloc ?_ _ | with_reducible refine below_step ?_ (by assumption) | with_reducible assumption))⟩
                          · have HN := mkHid (HNT.out (fun c c0 c1 e => by obtain ⟨sg, b, r, k, f1, f2, f3, f4, f5, f6⟩ := form_of hre c0 c1 e; rw [f1] at HR2; have := itoa_inj (f4.symm.trans HR2.out.1); omega))
                            go_wp2
                            go_roundw
                            case rel => exact ⟨u + 1, by omega, by go_num, HN.out, BE2.out, BX2.out⟩
                            case measure => simp [RowKit.intOf]; omega
                      · have HN := mkHid (HNT.out (fun c c0 c1 e => by obtain ⟨sg, b, r, k, f1, f2, f3, f4, f5, f6⟩ := form_of hre c0 c1 e; have z := g3.out; rw [f1] at z; have z2 := Option.some.inj z; exact f3 (UInt8.toNat_inj.1 (by rw [z2]; exact eq_fact (n := 45) q3))))
                        go_wp2
                        go_roundw
                        case rel => exact ⟨u + 1, by omega, by go_num, HN.out, BE2.out, BX2.out⟩
                        case measure => simp [RowKit.intOf]; omega
                    · have HN := mkHid (HNT.out (fun c c0 c1 e => by obtain ⟨sg, b, r, k, f1, f2, f3, f4, f5, f6⟩ := form_of hre c0 c1 e; have z := g2.out; rw [f1] at z; have z2 := Option.some.inj z; exact ne_fact (n := 32) q2 (by rw [← z2]; rfl)))
                      go_wp2
                      go_roundw
                      case rel => exact ⟨u + 1, by omega, by go_num, HN.out, BE2.out, BX2.out⟩
                      case measure => simp [RowKit.intOf]; omega
                  · cases q1b : ((((rs[1]'p1).toNat : Nat) : Int) != 45)
                    · cases q2 : ((((rs[2]'p2).toNat : Nat) : Int) != 32)
                      · cases q3 : ((((rs[3]'p3).toNat : Nat) : Int) == 45)
                        · have t3 : (rs.extract 3 rs.size).data.toList = rs.data.toList.drop 3 := Lib.extract_to_end rs 3
                          have HT3 := mkHid t3
                          clear t3
                          have h3l : 3 ≤ rs.size := by omega
                          go_wp2_with fail
                          refine (sInt_any (rs.extract 3 rs.size) 1000 _ (by simp; omega) (by omega) (by omega)).mono ?_
                          rintro e w5 ⟨r2, rfl, hr2, rfl⟩
                          rw [HT3.out] at hr2
                          have HR2 := mkHid hr2
                          clear hr2 HT3
                          cases r2 with
                          | none =>
                            have HN := mkHid (HNT.out (fun c c0 c1 e => by obtain ⟨sg, b, r, k, f1, f2, f3, f4, f5, f6⟩ := form_of hre c0 c1 e; rw [f1] at HR2; exact HR2.out k (by omega) f6 f4))
                            go_wp2
                            go_roundw
                            case rel => exact ⟨u + 1, by omega, by go_num, HN.out, BE2.out, BX2.out⟩
                            case measure => simp [RowKit.intOf]; omega
                          | some n =>
                            by_cases hpos : 0 < n
                            · have HEQ : Hid (rs.data.toList = tailL (-n)) := mkHid (by have e1 := HR2.out.1; have e2 : rs.data.toList = 32 :: 45 :: 32 :: rs.data.toList.drop 3 := list_form g0.out g1.out g2.out (UInt8.toNat_inj.1 (eq_fact2 (n := 32) q0)) (UInt8.toNat_inj.1 (eq_fact2 (n := 45) q1b)) (UInt8.toNat_inj.1 (eq_fact2 (n := 32) q2)); rw [e2]; have := tail_mk (sg := 45) (k := n) (by omega) e1 (.inr rfl); simpa using this)
                              have HN := mkHid (HHIT.out (-n) (by have := HR2.out.2; omega) (by have := HR2.out.2; omega) HEQ.out)
                              have qe : ((((rs[1]'p1).toNat : Nat) : Int) == 45) = true := by have := eq_fact2 (n := 45) q1b; rw [this]; rfl
                              have hwn : IntKind.i64.wrap (-n) = -n := IntWalk.i64_in _ ⟨by have := HR2.out.2; omega, by have := HR2.out.2; omega⟩
                              go_wp2
                              exact bodyPost_ret (v := retR (some ((u : Int) + 1, (-n)))) (by simp [results, Tryd.results25, go_sem, retR, *]) rfl ⟨_, rfl, HN.out, (by repeat (first | with_reducible exact Below.refl _ _ | (with_reducible refine bl_set2 ?_ ?_ _; (first | (simp; done) | (simp [*]; done) | (simp [*] <;> omega))) | with_reducible refine bl_drew ?_ | with_reducible refine bl_alloc ?_ _ | with_reducible refine below_step ?_ (by assumption) | with_reducible assumption))⟩
                            · have HN := mkHid (HNT.out (fun c c0 c1 e => by obtain ⟨sg, b, r, k, f1, f2, f3, f4, f5, f6⟩ := form_of hre c0 c1 e; rw [f1] at HR2; have := itoa_inj (f4.symm.trans HR2.out.1); omega))
                              go_wp2
                              go_roundw
                              case rel => exact ⟨u + 1, by omega, by go_num, HN.out, BE2.out, BX2.out⟩
                              case measure => simp [RowKit.intOf]; omega
                        · have HN := mkHid (HNT.out (fun c c0 c1 e => by obtain ⟨sg, b, r, k, f1, f2, f3, f4, f5, f6⟩ := form_of hre c0 c1 e; have z := g3.out; rw [f1] at z; have z2 := Option.some.inj z; exact f3 (UInt8.toNat_inj.1 (by rw [z2]; exact eq_fact (n := 45) q3))))
                          go_wp2
                          go_roundw
                          case rel => exact ⟨u + 1, by omega, by go_num, HN.out, BE2.out, BX2.out⟩
                          case measure => simp [RowKit.intOf]; omega
                      · have HN := mkHid (HNT.out (fun c c0 c1 e => by obtain ⟨sg, b, r, k, f1, f2, f3, f4, f5, f6⟩ := form_of hre c0 c1 e; have z := g2.out; rw [f1] at z; have z2 := Option.some.inj z; exact ne_fact (n := 32) q2 (by rw [← z2]; rfl)))
                        go_wp2
                        go_roundw
                        case rel => exact ⟨u + 1, by omega, by go_num, HN.out, BE2.out, BX2.out⟩
                        case measure => simp [RowKit.intOf]; omega
                    · have HN := mkHid (HNT.out (fun c c0 c1 e => by obtain ⟨sg, b, r, k, f1, f2, f3, f4, f5, f6⟩ := form_of hre c0 c1 e; have z := g1.out; rw [f1] at z; have z2 := Option.some.inj z; rcases f2 with rfl | rfl; (· exact ne_fact (n := 43) q1 (by rw [← z2]; rfl)); exact ne_fact (n := 45) q1b (by rw [← z2]; rfl)))
                      go_wp2
                      go_roundw
                      case rel => exact ⟨u + 1, by omega, by go_num, HN.out, BE2.out, BX2.out⟩
                      case measure => simp [RowKit.intOf]; omega
                · have HN := mkHid (HNT.out (fun c c0 c1 e => by obtain ⟨sg, b, r, k, f1, f2, f3, f4, f5, f6⟩ := form_of hre c0 c1 e; have z := g0.out; rw [f1] at z; have z2 := Option.some.inj z; exact ne_fact (n := 32) q0 (by rw [← z2]; rfl)))
                  go_wp2
                  go_roundw
                  case rel => exact ⟨u + 1, by omega, by go_num, HN.out, BE2.out, BX2.out⟩
                  case measure => simp [RowKit.intOf]; omega
      · have HN := mkHid (show ReadsS l s.data.toList none from from_end (by have := HFR.out; rwa [show u = l.length by omega] at this))
        have hlt' : ¬ (u : Int) < (l.length : Int) := by omega
        obtain ⟨x0, x1, x2, x3⟩ := BX.out
        have hBE := BE.out
        go_wp2
        exact bodyPost_ret (v := retR none) (by simp [results, Tryd.results25, go_sem, retR, *]) rfl ⟨_, rfl, HN.out, (by repeat (first | with_reducible exact Below.refl _ _ | (with_reducible refine bl_set2 ?_ ?_ _; (first | (simp; done) | (simp [*]; done) | (simp [*] <;> omega))) | with_reducible refine bl_drew ?_ | with_reducible refine bl_alloc ?_ _ | with_reducible refine below_step ?_ (by assumption) | with_reducible assumption))⟩
end Go.Proofs.YtiihjoliodemmaaDoor
