/-
  CONTRACT of the specification's FactsText.
-/
import Derived.Test.YthfiblldccnjcaaDoorFti
namespace Go.Proofs.YthfiblldccnjcaaDoor
open Go.RowKit
attribute [local go_sem] nlt2 nlt3 nlt4 nle2 nle3 nle4 drew_size drew_cell drew_frozen

theorem FB.of {w w1 v : World} {z : Int} {a : Option Addr} {n c : Nat} (h : FB w w1 z a n c) (hb : Below w1.heap.size w1 v) : FB w v z a n c := h.below hb
theorem emp_app (a : ByteArray) : (ByteArray.mk #[]) ++ a = a := by apply list_inj; rw [ba_app]; rfl
theorem ne_nil_of {o : ByteArray} (h : ¬ o = ⟨#[]⟩) : o.toList ≠ [] := by
  rw [ByteArray.toList_eq]
  intro e
  exact h (list_inj e)
theorem ne_emp {o : ByteArray} (h : ¬ o = ⟨#[]⟩) : (o.toList != []) = true := by simpa using ne_nil_of h
theorem eq_emp {o : ByteArray} (h : ¬ o = ⟨#[]⟩) : (o.toList == []) = false := by simpa using ne_nil_of h

set_option maxRecDepth 100000 in
set_option maxHeartbeats 6400000 in
theorem sFactsText_any (z : Int) (l : List Int) (a : Option Addr) (c : Nat) (nm : List ByteArray) (b off cap : Nat) (w : World) (hl : IntsAt w a l) (hF : Fit nm 1048576) (hn : StrsIn w nm b off) :
    Calls Tryd.prog 6 #[.agg #[.int .i64 z, .slice a l.length c], .slice (some ⟨b, off, none⟩) nm.length cap] w fun e w' => e = .returned (.string (factsT z l nm)) ∧ Below w.heap.size w w' := by
  have HL := mkHid hl
  have HF := mkHid hF
  have HN := mkHid hn
  have hnm := hF.1
  clear hl hF hn
  have HNO : Hid (∀ v, Calls Tryd.prog 13 #[.agg #[.int .i64 z, .slice a l.length c]] v fun e w' => e = .returned (.bool (noF z l)) ∧ Below v.heap.size v w') := mkHid fun v => by rw [← noN_eq]; exact sNoF_any z a l.length c v
  have HOK : Hid (∀ v, Below w.heap.size w v → Calls Tryd.prog 14 #[.agg #[.int .i64 z, .slice a l.length c]] v fun e w' => e = .returned (.bool (okF z l)) ∧ Below v.heap.size v w') := mkHid fun v hb => sOkF_any z l a c v (HL.out.below hb)
  have B0 := mkHid (FB.new w z a l.length c 29)
  obtain ⟨w1, hw1⟩ : ∃ v, w.alloc (.cells #[.int .i64 z, .slice a l.length c] 29) = v := ⟨_, rfl⟩
  rw [hw1] at B0
  have HW1 := mkHid hw1
  clear hw1
  have p0 := B0.out.c0
  have p1 := B0.out.c1
  cases hno : noF z l with
  | true =>
    have E := mkHid (show factsT z l nm = ⟨#[110, 111, 110, 101]⟩ by unfold factsT; rw [hno]; rfl)
    rw [hno] at HNO
    go_enter Tryd.func6, Tryd.ntmps6
    go_wp2_with fail
    rw [HW1.out]
    go_wp2_with fail
    refine (HNO.out _).mono ?_
    rintro e w2 ⟨rfl, hb⟩
    have B1 := mkHid (B0.out.below hb)
    clear hb
    go_wp2
    go_ret
    exact ⟨ret_str E.out.symm, B1.out.bel⟩
  | false =>
    rw [hno] at HNO
    cases hok : okF z l with
    | false =>
      have E := mkHid (show factsT z l nm = ⟨#[]⟩ by unfold factsT fitB; rw [hno, hok]; rfl)
      rw [hok] at HOK
      go_enter Tryd.func6, Tryd.ntmps6
      go_wp2_with fail
      rw [HW1.out]
      go_wp2_with fail
      refine (HNO.out _).mono ?_
      rintro e w2 ⟨rfl, hb⟩
      have B1 := mkHid (B0.out.below hb)
      clear hb p0 p1
      have p0 := B1.out.c0
      have p1 := B1.out.c1
      go_wp2_with fail
      refine (HOK.out _ B1.out.bel).mono ?_
      rintro e w3 ⟨rfl, hb⟩
      have B2 := mkHid (B1.out.below hb)
      clear hb
      go_wp2
      go_ret
      exact ⟨ret_str E.out.symm, B2.out.bel⟩
    | true =>
      rw [hok] at HOK
      obtain ⟨n, rfl, hn1, hn2, hll⟩ : ∃ n : Nat, z = n ∧ 1 ≤ n ∧ n ≤ 13 ∧ l.length = n * n := by
        have h := hok
        unfold okF at h
        simp only [Bool.and_eq_true, decide_eq_true_eq] at h
        exact ⟨z.toNat, by omega, by omega, by omega, h.1.2.2⟩
      have hw_n : IntKind.i64.wrap ((n : Int) - 1) = (n : Int) - 1 := IntWalk.i64_in _ ⟨by omega, by omega⟩
      have HKO := mkHid hok
      have HLL := mkHid hll
      have hqq := sq_le (n := n) (by omega)
      clear hok hll
      by_cases hle : (nm.length : Int) = (n : Int) - 1
      · have hb3 : ((nm.length : Int) != (n : Int) - 1) = false := by simp [hle]
        have ENO : Hid (labsB nm = false → factsT n l nm = ⟨#[]⟩) := mkHid fun h => by unfold factsT fitB; rw [hno, h]; simp
        have EYES : Hid (labsB nm = true → factsT n l nm = anyT (saidL n l nm l.length)) := mkHid fun h => by unfold factsT fitB; rw [hno, h, HKO.out]; simp [hle]
        obtain ⟨q, hqe⟩ : ∃ q, l.length = q := ⟨_, rfl⟩
        have HLE := mkHid (show nm.length + 1 = n by omega)
        have hqm : q = n * n := by rw [← hqe]; exact HLL.out
        have hqb : q ≤ 169 := by omega
        have HQM := mkHid hqm
        rw [hqe] at HNO HOK B0 EYES HW1 p1 ⊢
        have HQ := mkHid hqe
        clear hle hqe hqm hqq
        go_enter Tryd.func6, Tryd.ntmps6
        go_wp2_with fail
        rw [HW1.out]
        go_wp2_with fail
        refine (HNO.out _).mono ?_
        rintro e w2 ⟨rfl, hb⟩
        have B1 := mkHid (B0.out.below hb)
        clear hb p0 p1
        have p0 := B1.out.c0
        have p1 := B1.out.c1
        go_wp2_with fail
        refine (HOK.out _ B1.out.bel).mono ?_
        rintro e w3 ⟨rfl, hb⟩
        have B2 := mkHid (B1.out.below hb)
        clear hb p0 p1
        have p0 := B2.out.c0
        have p1 := B2.out.c1
        clear B0 B1 HNO HOK HW1
        go_wp2_with fail
        go_loopg [5] nm.length (fun g s5 wr => ∃ (k : Nat), k + g = nm.length ∧ s5 = .int .i64 k ∧ (nm.take k).all labB = true ∧ FB w wr n a q c)
        case atStart => exact ⟨0, by omega, rfl, by simp, B2.out⟩
        case round =>
          obtain ⟨k, hkg, rfl, hall, hB⟩ := hrel
          have HA := mkHid hall
          have HB := mkHid hB
          clear hall hB B2 p0 p1
          have p0 := HB.out.c0
          have p1 := HB.out.c1
          cases gk with
          | succ g =>
            have hlt : (k : Int) < (nm.length : Int) := by omega
            obtain ⟨x, hx⟩ : ∃ x, nm[k]? = some x := ⟨_, List.getElem?_eq_getElem (by omega)⟩
            have c1 := (HN.out.below HB.out.bel) k x hx
            have HXX := mkHid hx
            have HS := mkHid (HF.out.2 k x hx)
            clear hx
            have k2 : (0 : Int) ≤ (k : Int) := by omega
            cases hlb : labB x
            · have E := mkHid (ENO.out (labs_no HXX.out hlb))
              go_wp2_with fail
              refine (sLabel_any x _ HS.out).mono ?_
              rintro e w4 ⟨rfl, hb⟩
              rw [hlb]
              have B4 := mkHid (HB.out.below hb)
              clear hb
              go_wp2
              go_ret
              exact ⟨ret_str E.out.symm, B4.out.bel⟩
            · go_wp2_with fail
              refine (sLabel_any x _ HS.out).mono ?_
              rintro e w4 ⟨rfl, hb⟩
              rw [hlb]
              have B4 := mkHid (HB.out.below hb)
              clear hb
              go_wp2
              go_roundg g
              case measure => omega
              case rel => exact ⟨k + 1, by omega, by go_num, labs_take HXX.out HA.out hlb, B4.out⟩
          | zero =>
            have hlt : ¬ ((k : Int) < (nm.length : Int)) := by omega
            have E := mkHid (EYES.out (by have := HA.out; rw [List.take_of_length_le (by omega)] at this; exact this))
            clear HA ENO EYES hkg
            obtain ⟨wz, hwz⟩ : ∃ v, wr = v := ⟨_, rfl⟩
            rw [hwz] at HB p0 p1
            rw [hwz]
            clear hwz
            go_wp2_with fail
            go_loopg [6, 7] n (fun g s6 s7 wx => ∃ (i : Nat), i + g = n ∧ s7 = .int .i64 i ∧ s6 = .string (joinB (saidL n l nm (i * n))) ∧ Below wz.heap.size wz wx)
            case atStart => exact ⟨0, by omega, rfl, by rw [Nat.zero_mul]; rfl, Below.refl _ _⟩
            case round =>
              obtain ⟨i, hig, rfl, rfl, hBx⟩ := hrel
              have HBx := mkHid hBx
              clear hBx p0 p1
              have p0 := (HB.out.below HBx.out).c0
              have p1 := (HB.out.below HBx.out).c1
              cases gk with
              | zero =>
                have hlt2 : ¬ ((i : Int) < (n : Int)) := by omega
                obtain rfl : i = n := by omega
                have HLS : Hid (∀ s, s ∈ saidL i l nm (i * i) → 0 < s.size ∧ s.size ≤ 7000000) := mkHid fun s hs => said_size HF.out (ok_num HKO.out) (i * i) s hs
                rw [HQM.out] at E
                obtain ⟨L, hL⟩ : ∃ L, saidL i l nm (i * i) = L := ⟨_, rfl⟩
                rw [hL] at HLS E ⊢
                clear hL
                by_cases h0 : L = []
                · have E2 := mkHid (show anyT L = ⟨#[97, 110, 121]⟩ by unfold anyT; rw [if_pos h0])
                  have e3 : joinB L = ⟨#[]⟩ := by rw [h0]; rfl
                  rw [e3]
                  clear h0 e3
                  go_wp2
                  go_ret
                  exact ⟨ret_str (E.out.trans E2.out).symm, below_step HB.out.bel HBx.out⟩
                · have E2 := mkHid (show anyT L = joinB L by unfold anyT; rw [if_neg h0])
                  have hpz := joinB_pos h0 (fun s hs => (HLS.out s hs).1)
                  obtain ⟨o, ho⟩ : ∃ o, joinB L = o := ⟨_, rfl⟩
                  rw [ho] at E2 hpz ⊢
                  have hoz : ¬ o = ⟨#[]⟩ := fun e => by rw [e] at hpz; exact Nat.lt_irrefl 0 hpz
                  have hne : (o.toList != []) = true := ne_emp hoz
                  have hne2 : (o.toList == []) = false := eq_emp hoz
                  clear h0 ho hpz hoz
                  go_wp2
                  go_ret
                  exact ⟨ret_str (E.out.trans E2.out).symm, below_step HB.out.bel HBx.out⟩
              | succ g =>
                have hlt2 : (i : Int) < (n : Int) := by omega
                have hlti : i < n := by omega
                obtain ⟨m, hm⟩ : ∃ m, i * n = m := ⟨_, rfl⟩
                have hmq : m + n ≤ q := by have := HQM.out; rw [← hm, this, show i * n + n = (i + 1) * n by rw [Nat.add_mul]; omega]; exact Nat.mul_le_mul_right n hlti
                have hwm : IntKind.i64.wrap ((i : Int) * (n : Int)) = (m : Int) := by rw [show (i : Int) * (n : Int) = ((i * n : Nat) : Int) by simp, hm]; exact IntWalk.i64_in _ (by omega)
                have HMN := mkHid (show (i + 1) * n = m + n by rw [Nat.add_mul, hm]; omega)
                have HM := mkHid hm
                rw [hm]
                clear hm
                go_wp2_with fail
                go_loopg [6, 8] n (fun g2 s6 s8 wy => ∃ (j : Nat), j + g2 = n ∧ s8 = .int .i64 j ∧ s6 = .string (joinB (saidL n l nm (m + j))) ∧ Below wz.heap.size wz wy)
                case atStart => exact ⟨0, by omega, rfl, rfl, HBx.out⟩
                case round =>
                  clear HBx p0 p1
                  obtain ⟨j, hjg, rfl, rfl, hBy⟩ := hrel
                  have p0 := (HB.out.below hBy).c0
                  have p1 := (HB.out.below hBy).c1
                  have HBW := below_step HB.out.bel hBy
                  have hsw := (HB.out.below hBy).lt
                  cases gk with
                  | zero =>
                    have hlt3 : ¬ ((j : Int) < (n : Int)) := by omega
                    obtain rfl : j = n := by omega
                    have HBY := mkHid hBy
                    have HMN2 := mkHid (congrArg (fun k => joinB (saidL j l nm k)) HMN.out)
                    clear hBy HBW
                    obtain ⟨o, ho⟩ : ∃ o, joinB (saidL j l nm (m + j)) = o := ⟨_, rfl⟩
                    rw [ho]
                    have HO := mkHid ho
                    clear ho
                    go_wp2
                    go_roundg g
                    case measure => omega
                    case rel => exact ⟨i + 1, by omega, by go_num, by rw [← HO.out]; exact congrArg Value.string HMN2.out.symm, HBY.out⟩
                  | succ g2 =>
                    have hlt3 : (j : Int) < (n : Int) := by omega
                    obtain ⟨bb, oo, rfl, d0⟩ := IntsAt.get' (HL.out.below HBW) (k := m + j) (by have := HQ.out; omega)
                    have hii : (m + j) / n = i := by rw [← HM.out]; exact idx_div (by omega)
                    have hjj : (m + j) % n = j := by rw [← HM.out]; exact idx_mod (by omega)
                    have hen := ent_all (ok_each HKO.out (m + j) (by have := HQM.out; omega))
                    have HS1 := mkHid (said_same (n := n) (l := l) (nm := nm) (k := m + j))
                    have HS2 := mkHid (said_next (n := n) (l := l) (nm := nm) (k := m + j))
                    obtain ⟨x, hx⟩ : ∃ x, l.getD (m + j) 0 = x := ⟨_, rfl⟩
                    rw [hx, hii, hjj] at hen HS1 HS2
                    rw [hx] at d0
                    obtain ⟨cp, hcp⟩ : ∃ cp, capT i j = cp := ⟨_, rfl⟩
                    have HCA : Hid (∀ v, Calls Tryd.prog 16 #[.int .i64 i, .int .i64 j] v fun e w' => e = .returned (.int .i64 cp) ∧ v = w') := mkHid fun v => by rw [← hcp]; exact sCap_any i j v
                    have hij : i = j → cp = 0 := fun e => by rw [← hcp]; unfold capT; rw [if_pos e]
                    rw [hcp] at hen HS1 HS2
                    have hx0 := hen.1
                    have hx1 := hen.2.2.2
                    have hxj : x ≠ cp → i ≠ j := fun h e => h ((hen.2.2.1 e).trans (hij e).symm)
                    have HOE : Hid (joinB (saidL n l nm (m + j)) = ⟨#[]⟩ → saidL n l nm (m + j) = []) := mkHid fun h => Classical.byContradiction fun h2 => by
                      have hp := joinB_pos h2 (fun s hs => (said_size HF.out (ok_num HKO.out) (m + j) s hs).1)
                      rw [h] at hp
                      exact Nat.lt_irrefl 0 hp
                    have HON : Hid (¬ joinB (saidL n l nm (m + j)) = ⟨#[]⟩ → saidL n l nm (m + j) ≠ []) := mkHid fun h e => h (by rw [e]; rfl)
                    have hos := joinB_size (saidL n l nm (m + j)) 7000000 (fun s hs => (said_size HF.out (ok_num HKO.out) (m + j) s hs).2)
                    have hol := said_len n l nm (m + j)
                    have hol2 : (saidL n l nm (m + j)).length * (7000000 + 2) ≤ 169 * (7000000 + 2) := Nat.mul_le_mul_right _ (by omega)
                    obtain ⟨o, ho⟩ : ∃ o, joinB (saidL n l nm (m + j)) = o := ⟨_, rfl⟩
                    rw [ho] at HOE HON hos ⊢
                    have hosz : o.size ≤ 2000000000 := by omega
                    have HOJ := mkHid ho
                    clear hx hcp hen hij ho hii hjj hos hol hol2
                    have k0 : (0 : Int) ≤ (m : Int) + (j : Int) := by omega
                    have k1 : (m : Int) + (j : Int) < (q : Int) := by omega
                    have kw : IntKind.i64.wrap ((m : Int) + (j : Int)) = (m : Int) + (j : Int) := IntWalk.i64_in _ ⟨by omega, by omega⟩
                    by_cases h1 : x = cp
                    · have hb1 : (x == cp) = true := by simpa using h1
                      have HNX := mkHid (HS1.out h1)
                      have HBY := mkHid hBy
                      clear h1 HS1 HS2 hxj hBy HBW
                      go_wp2_with fail
                      refine (HCA.out _).mono ?_
                      rintro e w5 ⟨rfl, rfl⟩
                      go_wp2
                      go_roundg g2
                      case measure => omega
                      case rel => exact ⟨j + 1, by omega, by go_num, by rw [← Nat.add_assoc, HNX.out, HOJ.out], HBY.out⟩
                    · have hb1 : (x == cp) = false := by simpa using h1
                      have HNX := mkHid (HS2.out h1)
                      have hne_ij := hxj h1
                      clear h1 HS1 HS2 hxj
                      by_cases hjz : j = 0
                      · by_cases hoz : o = ⟨#[]⟩
                        · skip
                          have hj0 : ((j : Int) == 0) = true := by simp [hjz]
                          obtain ⟨ki, hki⟩ : ∃ z, i - 1 = z := ⟨_, rfl⟩
                          have hkil : ki < nm.length := by have := HLE.out; omega
                          have hwi : IntKind.i64.wrap ((i : Int) - 1) = (ki : Int) := by rw [IntWalk.i64_in _ ⟨by omega, by omega⟩]; omega
                          have hw2i : wrap64 ((i : Int) - 1) = (ki : Int) := by unfold wrap64; omega
                          obtain ⟨si, hsi⟩ : ∃ z, nmAt nm i = z := ⟨_, rfl⟩
                          have hzi : si.size ≤ 1048576 := by rw [← hsi]; exact nm_size HF.out i
                          have hgi := nmAt_get (l := nm) (v := i) (by omega) (by have := HLE.out; omega)
                          rw [hki, hsi] at hgi
                          have di := (HN.out.below HBW) ki si hgi
                          have hsb := World.block_lt_of_cell? _ _ di
                          simp only at hsb
                          have z0i : (0 : Int) ≤ (ki : Int) := by omega
                          have z1i : (ki : Int) < (nm.length : Int) := by omega
                          have HNi : Hid (nmAt nm i = si) := mkHid hsi
                          clear hsi hgi hki
                          obtain ⟨dx, hdx⟩ : ∃ z, dI x = z := ⟨_, rfl⟩
                          have hdz : dx.size ≤ 4000002 := by rw [← hdx]; exact dI_size x (by omega) (by omega)
                          have HDG : Hid (∀ v, Calls Tryd.prog 17 #[.int .i64 x] v fun e v' => e = .returned (.string dx) ∧ Below v.heap.size v v') := mkHid fun v => by rw [← hdx]; exact digitsI_any x v (by omega) (by omega)
                          have HDX := mkHid hdx
                          clear hdx
                          have ta0 : ¬ 9223372036854775807 < si.size + 4 := by omega
                          have ua0 : (si ++ (ByteArray.mk #[32, 60, 61, 32])).size = si.size + 4 := by simp only [ByteArray.size_append] <;> rfl
                          have ta1 : ¬ 9223372036854775807 < si.size + 4 + dx.size := by omega
                          have ua1 : ((si ++ (ByteArray.mk #[32, 60, 61, 32])) ++ dx).size = si.size + 4 + dx.size := by simp only [ByteArray.size_append] <;> rfl
                          have HPT : Hid (pieceT nm i j x = ((si ++ (ByteArray.mk #[32, 60, 61, 32])) ++ dx)) := mkHid (by
                            unfold pieceT
                            rw [if_pos hjz, HNi.out, HDX.out])
                          obtain rfl : o = ⟨#[]⟩ := hoz
                          have HFIN : Hid (joinB (saidL n l nm (m + j + 1)) = (ByteArray.mk #[]) ++ ((si ++ (ByteArray.mk #[32, 60, 61, 32])) ++ dx)) := mkHid (by rw [HNX.out, HPT.out, HOE.out rfl]; exact (joinB_one _).trans (emp_app _).symm)
                          have tb : ¬ 9223372036854775807 < 0 + (si.size + 4 + dx.size) := by omega
                          have tb2 : ¬ 9223372036854775807 < si.size + 4 + dx.size := by omega
                          clear HBW HNX HPT HOE HON hjz
                          go_wp2_with fail
                          refine (HCA.out _).mono ?_
                          rintro e w5 ⟨rfl, rfl⟩
                          go_wp2_with fail
                          go_region_held3 (fun v9 => v9.cell? ⟨b, off + ki, none⟩ = some (.string si))
                            (first | (simp (maxDischargeDepth := 12) [*, go_sem]; done) | assumption)
                            (first | (go_at_call 17; refine (HDG.out _).mono ?_; rintro e w' ⟨rfl, hb⟩; (try rw [below_drew] at hb); obtain ⟨hc, hf, hm, hs⟩ := bcell4 hb; have hz0 : w.heap.size < w'.heap.size := (by have := hb.size; (try simp at this); omega); have hl0 := Nat.le_of_lt hz0; have hz1 : b < w'.heap.size := (by have := hb.size; (try simp at this); omega)))
                          all_goals
                            go_wp2
                            go_roundg g2
                            case measure => omega
                            case rel => exact ⟨j + 1, by omega, by go_num, by rw [← HFIN.out, Nat.add_assoc], (by repeat (first | with_reducible exact Below.refl _ _ | with_reducible refine bl_drew ?_ | with_reducible refine below_step ?_ (by assumption) | with_reducible assumption))⟩
                        · skip
                          have hj0 : ((j : Int) == 0) = true := by simp [hjz]
                          obtain ⟨ki, hki⟩ : ∃ z, i - 1 = z := ⟨_, rfl⟩
                          have hkil : ki < nm.length := by have := HLE.out; omega
                          have hwi : IntKind.i64.wrap ((i : Int) - 1) = (ki : Int) := by rw [IntWalk.i64_in _ ⟨by omega, by omega⟩]; omega
                          have hw2i : wrap64 ((i : Int) - 1) = (ki : Int) := by unfold wrap64; omega
                          obtain ⟨si, hsi⟩ : ∃ z, nmAt nm i = z := ⟨_, rfl⟩
                          have hzi : si.size ≤ 1048576 := by rw [← hsi]; exact nm_size HF.out i
                          have hgi := nmAt_get (l := nm) (v := i) (by omega) (by have := HLE.out; omega)
                          rw [hki, hsi] at hgi
                          have di := (HN.out.below HBW) ki si hgi
                          have hsb := World.block_lt_of_cell? _ _ di
                          simp only at hsb
                          have z0i : (0 : Int) ≤ (ki : Int) := by omega
                          have z1i : (ki : Int) < (nm.length : Int) := by omega
                          have HNi : Hid (nmAt nm i = si) := mkHid hsi
                          clear hsi hgi hki
                          obtain ⟨dx, hdx⟩ : ∃ z, dI x = z := ⟨_, rfl⟩
                          have hdz : dx.size ≤ 4000002 := by rw [← hdx]; exact dI_size x (by omega) (by omega)
                          have HDG : Hid (∀ v, Calls Tryd.prog 17 #[.int .i64 x] v fun e v' => e = .returned (.string dx) ∧ Below v.heap.size v v') := mkHid fun v => by rw [← hdx]; exact digitsI_any x v (by omega) (by omega)
                          have HDX := mkHid hdx
                          clear hdx
                          have ta0 : ¬ 9223372036854775807 < si.size + 4 := by omega
                          have ua0 : (si ++ (ByteArray.mk #[32, 60, 61, 32])).size = si.size + 4 := by simp only [ByteArray.size_append] <;> rfl
                          have ta1 : ¬ 9223372036854775807 < si.size + 4 + dx.size := by omega
                          have ua1 : ((si ++ (ByteArray.mk #[32, 60, 61, 32])) ++ dx).size = si.size + 4 + dx.size := by simp only [ByteArray.size_append] <;> rfl
                          have HPT : Hid (pieceT nm i j x = ((si ++ (ByteArray.mk #[32, 60, 61, 32])) ++ dx)) := mkHid (by
                            unfold pieceT
                            rw [if_pos hjz, HNi.out, HDX.out])
                          have HFIN : Hid (joinB (saidL n l nm (m + j + 1)) = (o ++ (ByteArray.mk #[44, 32])) ++ ((si ++ (ByteArray.mk #[32, 60, 61, 32])) ++ dx)) := mkHid (by rw [HNX.out, HPT.out, joinB_snoc _ (HON.out hoz), HOJ.out])
                          have tb0 : ¬ 9223372036854775807 < o.size + 2 := by omega
                          have ub0 : (o ++ (ByteArray.mk #[44, 32])).size = o.size + 2 := by simp only [ByteArray.size_append] <;> rfl
                          have tb : ¬ 9223372036854775807 < o.size + 2 + (si.size + 4 + dx.size) := by omega
                          have hne : (o.toList != []) = true := ne_emp hoz
                          have hne2 : (o.toList == []) = false := eq_emp hoz
                          clear hoz
                          clear HBW HNX HPT HOE HON hjz
                          go_wp2_with fail
                          refine (HCA.out _).mono ?_
                          rintro e w5 ⟨rfl, rfl⟩
                          go_wp2_with fail
                          go_region_held3 (fun v9 => v9.cell? ⟨b, off + ki, none⟩ = some (.string si))
                            (first | (simp (maxDischargeDepth := 12) [*, go_sem]; done) | assumption)
                            (first | (go_at_call 17; refine (HDG.out _).mono ?_; rintro e w' ⟨rfl, hb⟩; (try rw [below_drew] at hb); obtain ⟨hc, hf, hm, hs⟩ := bcell4 hb; have hz0 : w.heap.size < w'.heap.size := (by have := hb.size; (try simp at this); omega); have hl0 := Nat.le_of_lt hz0; have hz1 : b < w'.heap.size := (by have := hb.size; (try simp at this); omega)))
                          all_goals
                            go_wp2
                            go_roundg g2
                            case measure => omega
                            case rel => exact ⟨j + 1, by omega, by go_num, by rw [← HFIN.out, Nat.add_assoc], (by repeat (first | with_reducible exact Below.refl _ _ | with_reducible refine bl_drew ?_ | with_reducible refine below_step ?_ (by assumption) | with_reducible assumption))⟩
                      · by_cases hiz : i = 0
                        · by_cases hoz : o = ⟨#[]⟩
                          · skip
                            have hj0 : ((j : Int) == 0) = false := by simp [hjz]
                            have hi0 : ((i : Int) == 0) = true := by simp [hiz]
                            obtain ⟨kj, hkj⟩ : ∃ z, j - 1 = z := ⟨_, rfl⟩
                            have hkjl : kj < nm.length := by have := HLE.out; omega
                            have hwj : IntKind.i64.wrap ((j : Int) - 1) = (kj : Int) := by rw [IntWalk.i64_in _ ⟨by omega, by omega⟩]; omega
                            have hw2j : wrap64 ((j : Int) - 1) = (kj : Int) := by unfold wrap64; omega
                            obtain ⟨sj, hsj⟩ : ∃ z, nmAt nm j = z := ⟨_, rfl⟩
                            have hzj : sj.size ≤ 1048576 := by rw [← hsj]; exact nm_size HF.out j
                            have hgj := nmAt_get (l := nm) (v := j) (by omega) (by have := HLE.out; omega)
                            rw [hkj, hsj] at hgj
                            have dj := (HN.out.below HBW) kj sj hgj
                            have hsb := World.block_lt_of_cell? _ _ dj
                            simp only at hsb
                            have z0j : (0 : Int) ≤ (kj : Int) := by omega
                            have z1j : (kj : Int) < (nm.length : Int) := by omega
                            have HNj : Hid (nmAt nm j = sj) := mkHid hsj
                            clear hsj hgj hkj
                            obtain ⟨y, hy⟩ : ∃ y, -x = y := ⟨_, rfl⟩
                            have hwy : IntKind.i64.wrap (-x) = y := by rw [IntWalk.i64_in _ ⟨by omega, by omega⟩]; exact hy
                            obtain ⟨dx, hdx⟩ : ∃ z, dI y = z := ⟨_, rfl⟩
                            have hdz : dx.size ≤ 4000002 := by rw [← hdx]; exact dI_size y (by omega) (by omega)
                            have HDG : Hid (∀ v, Calls Tryd.prog 17 #[.int .i64 y] v fun e v' => e = .returned (.string dx) ∧ Below v.heap.size v v') := mkHid fun v => by rw [← hdx]; exact digitsI_any y v (by omega) (by omega)
                            have HDX := mkHid hdx
                            clear hdx
                            have ta0 : ¬ 9223372036854775807 < sj.size + 4 := by omega
                            have ua0 : (sj ++ (ByteArray.mk #[32, 62, 61, 32])).size = sj.size + 4 := by simp only [ByteArray.size_append] <;> rfl
                            have ta1 : ¬ 9223372036854775807 < sj.size + 4 + dx.size := by omega
                            have ua1 : ((sj ++ (ByteArray.mk #[32, 62, 61, 32])) ++ dx).size = sj.size + 4 + dx.size := by simp only [ByteArray.size_append] <;> rfl
                            have HPT : Hid (pieceT nm i j x = ((sj ++ (ByteArray.mk #[32, 62, 61, 32])) ++ dx)) := mkHid (by
                              unfold pieceT
                              rw [if_neg hjz, if_pos hiz, HNj.out, hy, HDX.out])
                            clear hy
                            obtain rfl : o = ⟨#[]⟩ := hoz
                            have HFIN : Hid (joinB (saidL n l nm (m + j + 1)) = (ByteArray.mk #[]) ++ ((sj ++ (ByteArray.mk #[32, 62, 61, 32])) ++ dx)) := mkHid (by rw [HNX.out, HPT.out, HOE.out rfl]; exact (joinB_one _).trans (emp_app _).symm)
                            have tb : ¬ 9223372036854775807 < 0 + (sj.size + 4 + dx.size) := by omega
                            have tb2 : ¬ 9223372036854775807 < sj.size + 4 + dx.size := by omega
                            clear HBW HNX HPT HOE HON hjz hiz
                            go_wp2_with fail
                            refine (HCA.out _).mono ?_
                            rintro e w5 ⟨rfl, rfl⟩
                            go_wp2_with fail
                            go_region_held3 (fun v9 => v9.cell? ⟨b, off + kj, none⟩ = some (.string sj))
                              (first | (simp (maxDischargeDepth := 12) [*, go_sem]; done) | assumption)
                              (first | (go_at_call 17; refine (HDG.out _).mono ?_; rintro e w' ⟨rfl, hb⟩; (try rw [below_drew] at hb); obtain ⟨hc, hf, hm, hs⟩ := bcell4 hb; have hz0 : w.heap.size < w'.heap.size := (by have := hb.size; (try simp at this); omega); have hl0 := Nat.le_of_lt hz0; have hz1 : b < w'.heap.size := (by have := hb.size; (try simp at this); omega)))
                            all_goals
                              go_wp2
                              go_roundg g2
                              case measure => omega
                              case rel => exact ⟨j + 1, by omega, by go_num, by rw [← HFIN.out, Nat.add_assoc], (by repeat (first | with_reducible exact Below.refl _ _ | with_reducible refine bl_drew ?_ | with_reducible refine below_step ?_ (by assumption) | with_reducible assumption))⟩
                          · skip
                            have hj0 : ((j : Int) == 0) = false := by simp [hjz]
                            have hi0 : ((i : Int) == 0) = true := by simp [hiz]
                            obtain ⟨kj, hkj⟩ : ∃ z, j - 1 = z := ⟨_, rfl⟩
                            have hkjl : kj < nm.length := by have := HLE.out; omega
                            have hwj : IntKind.i64.wrap ((j : Int) - 1) = (kj : Int) := by rw [IntWalk.i64_in _ ⟨by omega, by omega⟩]; omega
                            have hw2j : wrap64 ((j : Int) - 1) = (kj : Int) := by unfold wrap64; omega
                            obtain ⟨sj, hsj⟩ : ∃ z, nmAt nm j = z := ⟨_, rfl⟩
                            have hzj : sj.size ≤ 1048576 := by rw [← hsj]; exact nm_size HF.out j
                            have hgj := nmAt_get (l := nm) (v := j) (by omega) (by have := HLE.out; omega)
                            rw [hkj, hsj] at hgj
                            have dj := (HN.out.below HBW) kj sj hgj
                            have hsb := World.block_lt_of_cell? _ _ dj
                            simp only at hsb
                            have z0j : (0 : Int) ≤ (kj : Int) := by omega
                            have z1j : (kj : Int) < (nm.length : Int) := by omega
                            have HNj : Hid (nmAt nm j = sj) := mkHid hsj
                            clear hsj hgj hkj
                            obtain ⟨y, hy⟩ : ∃ y, -x = y := ⟨_, rfl⟩
                            have hwy : IntKind.i64.wrap (-x) = y := by rw [IntWalk.i64_in _ ⟨by omega, by omega⟩]; exact hy
                            obtain ⟨dx, hdx⟩ : ∃ z, dI y = z := ⟨_, rfl⟩
                            have hdz : dx.size ≤ 4000002 := by rw [← hdx]; exact dI_size y (by omega) (by omega)
                            have HDG : Hid (∀ v, Calls Tryd.prog 17 #[.int .i64 y] v fun e v' => e = .returned (.string dx) ∧ Below v.heap.size v v') := mkHid fun v => by rw [← hdx]; exact digitsI_any y v (by omega) (by omega)
                            have HDX := mkHid hdx
                            clear hdx
                            have ta0 : ¬ 9223372036854775807 < sj.size + 4 := by omega
                            have ua0 : (sj ++ (ByteArray.mk #[32, 62, 61, 32])).size = sj.size + 4 := by simp only [ByteArray.size_append] <;> rfl
                            have ta1 : ¬ 9223372036854775807 < sj.size + 4 + dx.size := by omega
                            have ua1 : ((sj ++ (ByteArray.mk #[32, 62, 61, 32])) ++ dx).size = sj.size + 4 + dx.size := by simp only [ByteArray.size_append] <;> rfl
                            have HPT : Hid (pieceT nm i j x = ((sj ++ (ByteArray.mk #[32, 62, 61, 32])) ++ dx)) := mkHid (by
                              unfold pieceT
                              rw [if_neg hjz, if_pos hiz, HNj.out, hy, HDX.out])
                            clear hy
                            have HFIN : Hid (joinB (saidL n l nm (m + j + 1)) = (o ++ (ByteArray.mk #[44, 32])) ++ ((sj ++ (ByteArray.mk #[32, 62, 61, 32])) ++ dx)) := mkHid (by rw [HNX.out, HPT.out, joinB_snoc _ (HON.out hoz), HOJ.out])
                            have tb0 : ¬ 9223372036854775807 < o.size + 2 := by omega
                            have ub0 : (o ++ (ByteArray.mk #[44, 32])).size = o.size + 2 := by simp only [ByteArray.size_append] <;> rfl
                            have tb : ¬ 9223372036854775807 < o.size + 2 + (sj.size + 4 + dx.size) := by omega
                            have hne : (o.toList != []) = true := ne_emp hoz
                            have hne2 : (o.toList == []) = false := eq_emp hoz
                            clear hoz
                            clear HBW HNX HPT HOE HON hjz hiz
                            go_wp2_with fail
                            refine (HCA.out _).mono ?_
                            rintro e w5 ⟨rfl, rfl⟩
                            go_wp2_with fail
                            go_region_held3 (fun v9 => v9.cell? ⟨b, off + kj, none⟩ = some (.string sj))
                              (first | (simp (maxDischargeDepth := 12) [*, go_sem]; done) | assumption)
                              (first | (go_at_call 17; refine (HDG.out _).mono ?_; rintro e w' ⟨rfl, hb⟩; (try rw [below_drew] at hb); obtain ⟨hc, hf, hm, hs⟩ := bcell4 hb; have hz0 : w.heap.size < w'.heap.size := (by have := hb.size; (try simp at this); omega); have hl0 := Nat.le_of_lt hz0; have hz1 : b < w'.heap.size := (by have := hb.size; (try simp at this); omega)))
                            all_goals
                              go_wp2
                              go_roundg g2
                              case measure => omega
                              case rel => exact ⟨j + 1, by omega, by go_num, by rw [← HFIN.out, Nat.add_assoc], (by repeat (first | with_reducible exact Below.refl _ _ | with_reducible refine bl_drew ?_ | with_reducible refine below_step ?_ (by assumption) | with_reducible assumption))⟩
                        · by_cases hoz : o = ⟨#[]⟩
                          · skip
                            have hj0 : ((j : Int) == 0) = false := by simp [hjz]
                            have hi0 : ((i : Int) == 0) = false := by simp [hiz]
                            obtain ⟨ki, hki⟩ : ∃ z, i - 1 = z := ⟨_, rfl⟩
                            have hkil : ki < nm.length := by have := HLE.out; omega
                            have hwi : IntKind.i64.wrap ((i : Int) - 1) = (ki : Int) := by rw [IntWalk.i64_in _ ⟨by omega, by omega⟩]; omega
                            have hw2i : wrap64 ((i : Int) - 1) = (ki : Int) := by unfold wrap64; omega
                            obtain ⟨si, hsi⟩ : ∃ z, nmAt nm i = z := ⟨_, rfl⟩
                            have hzi : si.size ≤ 1048576 := by rw [← hsi]; exact nm_size HF.out i
                            have hgi := nmAt_get (l := nm) (v := i) (by omega) (by have := HLE.out; omega)
                            rw [hki, hsi] at hgi
                            have di := (HN.out.below HBW) ki si hgi
                            have hsb := World.block_lt_of_cell? _ _ di
                            simp only at hsb
                            have z0i : (0 : Int) ≤ (ki : Int) := by omega
                            have z1i : (ki : Int) < (nm.length : Int) := by omega
                            have HNi : Hid (nmAt nm i = si) := mkHid hsi
                            clear hsi hgi hki
                            obtain ⟨kj, hkj⟩ : ∃ z, j - 1 = z := ⟨_, rfl⟩
                            have hkjl : kj < nm.length := by have := HLE.out; omega
                            have hwj : IntKind.i64.wrap ((j : Int) - 1) = (kj : Int) := by rw [IntWalk.i64_in _ ⟨by omega, by omega⟩]; omega
                            have hw2j : wrap64 ((j : Int) - 1) = (kj : Int) := by unfold wrap64; omega
                            obtain ⟨sj, hsj⟩ : ∃ z, nmAt nm j = z := ⟨_, rfl⟩
                            have hzj : sj.size ≤ 1048576 := by rw [← hsj]; exact nm_size HF.out j
                            have hgj := nmAt_get (l := nm) (v := j) (by omega) (by have := HLE.out; omega)
                            rw [hkj, hsj] at hgj
                            have dj := (HN.out.below HBW) kj sj hgj
                            have hsb := World.block_lt_of_cell? _ _ dj
                            simp only at hsb
                            have z0j : (0 : Int) ≤ (kj : Int) := by omega
                            have z1j : (kj : Int) < (nm.length : Int) := by omega
                            have HNj : Hid (nmAt nm j = sj) := mkHid hsj
                            clear hsj hgj hkj
                            obtain ⟨dx, hdx⟩ : ∃ z, dI x = z := ⟨_, rfl⟩
                            have hdz : dx.size ≤ 4000002 := by rw [← hdx]; exact dI_size x (by omega) (by omega)
                            have HDG : Hid (∀ v, Calls Tryd.prog 17 #[.int .i64 x] v fun e v' => e = .returned (.string dx) ∧ Below v.heap.size v v') := mkHid fun v => by rw [← hdx]; exact digitsI_any x v (by omega) (by omega)
                            have HDX := mkHid hdx
                            clear hdx
                            have ta0 : ¬ 9223372036854775807 < si.size + 3 := by omega
                            have ua0 : (si ++ (ByteArray.mk #[32, 45, 32])).size = si.size + 3 := by simp only [ByteArray.size_append] <;> rfl
                            have ta1 : ¬ 9223372036854775807 < si.size + 3 + sj.size := by omega
                            have ua1 : ((si ++ (ByteArray.mk #[32, 45, 32])) ++ sj).size = si.size + 3 + sj.size := by simp only [ByteArray.size_append] <;> rfl
                            have ta2 : ¬ 9223372036854775807 < si.size + 3 + sj.size + 4 := by omega
                            have ua2 : (((si ++ (ByteArray.mk #[32, 45, 32])) ++ sj) ++ (ByteArray.mk #[32, 60, 61, 32])).size = si.size + 3 + sj.size + 4 := by simp only [ByteArray.size_append] <;> rfl
                            have ta3 : ¬ 9223372036854775807 < si.size + 3 + sj.size + 4 + dx.size := by omega
                            have ua3 : ((((si ++ (ByteArray.mk #[32, 45, 32])) ++ sj) ++ (ByteArray.mk #[32, 60, 61, 32])) ++ dx).size = si.size + 3 + sj.size + 4 + dx.size := by simp only [ByteArray.size_append] <;> rfl
                            have HPT : Hid (pieceT nm i j x = ((((si ++ (ByteArray.mk #[32, 45, 32])) ++ sj) ++ (ByteArray.mk #[32, 60, 61, 32])) ++ dx)) := mkHid (by
                              unfold pieceT
                              rw [if_neg hjz, if_neg hiz, HNi.out, HNj.out, HDX.out])
                            obtain rfl : o = ⟨#[]⟩ := hoz
                            have HFIN : Hid (joinB (saidL n l nm (m + j + 1)) = (ByteArray.mk #[]) ++ ((((si ++ (ByteArray.mk #[32, 45, 32])) ++ sj) ++ (ByteArray.mk #[32, 60, 61, 32])) ++ dx)) := mkHid (by rw [HNX.out, HPT.out, HOE.out rfl]; exact (joinB_one _).trans (emp_app _).symm)
                            have tb : ¬ 9223372036854775807 < 0 + (si.size + 3 + sj.size + 4 + dx.size) := by omega
                            have tb2 : ¬ 9223372036854775807 < si.size + 3 + sj.size + 4 + dx.size := by omega
                            clear HBW HNX HPT HOE HON hjz hiz
                            go_wp2_with fail
                            refine (HCA.out _).mono ?_
                            rintro e w5 ⟨rfl, rfl⟩
                            go_wp2_with fail
                            go_region_held3 (fun v9 => v9.cell? ⟨b, off + ki, none⟩ = some (.string si) ∧ v9.cell? ⟨b, off + kj, none⟩ = some (.string sj))
                              (first | (simp (maxDischargeDepth := 12) [*, go_sem]; done) | assumption)
                              (first | (go_at_call 17; refine (HDG.out _).mono ?_; rintro e w' ⟨rfl, hb⟩; (try rw [below_drew] at hb); obtain ⟨hc, hf, hm, hs⟩ := bcell4 hb; have hz0 : w.heap.size < w'.heap.size := (by have := hb.size; (try simp at this); omega); have hl0 := Nat.le_of_lt hz0; have hz1 : b < w'.heap.size := (by have := hb.size; (try simp at this); omega)))
                            all_goals
                              go_wp2
                              go_roundg g2
                              case measure => omega
                              case rel => exact ⟨j + 1, by omega, by go_num, by rw [← HFIN.out, Nat.add_assoc], (by repeat (first | with_reducible exact Below.refl _ _ | with_reducible refine bl_drew ?_ | with_reducible refine below_step ?_ (by assumption) | with_reducible assumption))⟩
                          · skip
                            have hj0 : ((j : Int) == 0) = false := by simp [hjz]
                            have hi0 : ((i : Int) == 0) = false := by simp [hiz]
                            obtain ⟨ki, hki⟩ : ∃ z, i - 1 = z := ⟨_, rfl⟩
                            have hkil : ki < nm.length := by have := HLE.out; omega
                            have hwi : IntKind.i64.wrap ((i : Int) - 1) = (ki : Int) := by rw [IntWalk.i64_in _ ⟨by omega, by omega⟩]; omega
                            have hw2i : wrap64 ((i : Int) - 1) = (ki : Int) := by unfold wrap64; omega
                            obtain ⟨si, hsi⟩ : ∃ z, nmAt nm i = z := ⟨_, rfl⟩
                            have hzi : si.size ≤ 1048576 := by rw [← hsi]; exact nm_size HF.out i
                            have hgi := nmAt_get (l := nm) (v := i) (by omega) (by have := HLE.out; omega)
                            rw [hki, hsi] at hgi
                            have di := (HN.out.below HBW) ki si hgi
                            have hsb := World.block_lt_of_cell? _ _ di
                            simp only at hsb
                            have z0i : (0 : Int) ≤ (ki : Int) := by omega
                            have z1i : (ki : Int) < (nm.length : Int) := by omega
                            have HNi : Hid (nmAt nm i = si) := mkHid hsi
                            clear hsi hgi hki
                            obtain ⟨kj, hkj⟩ : ∃ z, j - 1 = z := ⟨_, rfl⟩
                            have hkjl : kj < nm.length := by have := HLE.out; omega
                            have hwj : IntKind.i64.wrap ((j : Int) - 1) = (kj : Int) := by rw [IntWalk.i64_in _ ⟨by omega, by omega⟩]; omega
                            have hw2j : wrap64 ((j : Int) - 1) = (kj : Int) := by unfold wrap64; omega
                            obtain ⟨sj, hsj⟩ : ∃ z, nmAt nm j = z := ⟨_, rfl⟩
                            have hzj : sj.size ≤ 1048576 := by rw [← hsj]; exact nm_size HF.out j
                            have hgj := nmAt_get (l := nm) (v := j) (by omega) (by have := HLE.out; omega)
                            rw [hkj, hsj] at hgj
                            have dj := (HN.out.below HBW) kj sj hgj
                            have hsb := World.block_lt_of_cell? _ _ dj
                            simp only at hsb
                            have z0j : (0 : Int) ≤ (kj : Int) := by omega
                            have z1j : (kj : Int) < (nm.length : Int) := by omega
                            have HNj : Hid (nmAt nm j = sj) := mkHid hsj
                            clear hsj hgj hkj
                            obtain ⟨dx, hdx⟩ : ∃ z, dI x = z := ⟨_, rfl⟩
                            have hdz : dx.size ≤ 4000002 := by rw [← hdx]; exact dI_size x (by omega) (by omega)
                            have HDG : Hid (∀ v, Calls Tryd.prog 17 #[.int .i64 x] v fun e v' => e = .returned (.string dx) ∧ Below v.heap.size v v') := mkHid fun v => by rw [← hdx]; exact digitsI_any x v (by omega) (by omega)
                            have HDX := mkHid hdx
                            clear hdx
                            have ta0 : ¬ 9223372036854775807 < si.size + 3 := by omega
                            have ua0 : (si ++ (ByteArray.mk #[32, 45, 32])).size = si.size + 3 := by simp only [ByteArray.size_append] <;> rfl
                            have ta1 : ¬ 9223372036854775807 < si.size + 3 + sj.size := by omega
                            have ua1 : ((si ++ (ByteArray.mk #[32, 45, 32])) ++ sj).size = si.size + 3 + sj.size := by simp only [ByteArray.size_append] <;> rfl
                            have ta2 : ¬ 9223372036854775807 < si.size + 3 + sj.size + 4 := by omega
                            have ua2 : (((si ++ (ByteArray.mk #[32, 45, 32])) ++ sj) ++ (ByteArray.mk #[32, 60, 61, 32])).size = si.size + 3 + sj.size + 4 := by simp only [ByteArray.size_append] <;> rfl
                            have ta3 : ¬ 9223372036854775807 < si.size + 3 + sj.size + 4 + dx.size := by omega
                            have ua3 : ((((si ++ (ByteArray.mk #[32, 45, 32])) ++ sj) ++ (ByteArray.mk #[32, 60, 61, 32])) ++ dx).size = si.size + 3 + sj.size + 4 + dx.size := by simp only [ByteArray.size_append] <;> rfl
                            have HPT : Hid (pieceT nm i j x = ((((si ++ (ByteArray.mk #[32, 45, 32])) ++ sj) ++ (ByteArray.mk #[32, 60, 61, 32])) ++ dx)) := mkHid (by
                              unfold pieceT
                              rw [if_neg hjz, if_neg hiz, HNi.out, HNj.out, HDX.out])
                            have HFIN : Hid (joinB (saidL n l nm (m + j + 1)) = (o ++ (ByteArray.mk #[44, 32])) ++ ((((si ++ (ByteArray.mk #[32, 45, 32])) ++ sj) ++ (ByteArray.mk #[32, 60, 61, 32])) ++ dx)) := mkHid (by rw [HNX.out, HPT.out, joinB_snoc _ (HON.out hoz), HOJ.out])
                            have tb0 : ¬ 9223372036854775807 < o.size + 2 := by omega
                            have ub0 : (o ++ (ByteArray.mk #[44, 32])).size = o.size + 2 := by simp only [ByteArray.size_append] <;> rfl
                            have tb : ¬ 9223372036854775807 < o.size + 2 + (si.size + 3 + sj.size + 4 + dx.size) := by omega
                            have hne : (o.toList != []) = true := ne_emp hoz
                            have hne2 : (o.toList == []) = false := eq_emp hoz
                            clear hoz
                            clear HBW HNX HPT HOE HON hjz hiz
                            go_wp2_with fail
                            refine (HCA.out _).mono ?_
                            rintro e w5 ⟨rfl, rfl⟩
                            go_wp2_with fail
                            go_region_held3 (fun v9 => v9.cell? ⟨b, off + ki, none⟩ = some (.string si) ∧ v9.cell? ⟨b, off + kj, none⟩ = some (.string sj))
                              (first | (simp (maxDischargeDepth := 12) [*, go_sem]; done) | assumption)
                              (first | (go_at_call 17; refine (HDG.out _).mono ?_; rintro e w' ⟨rfl, hb⟩; (try rw [below_drew] at hb); obtain ⟨hc, hf, hm, hs⟩ := bcell4 hb; have hz0 : w.heap.size < w'.heap.size := (by have := hb.size; (try simp at this); omega); have hl0 := Nat.le_of_lt hz0; have hz1 : b < w'.heap.size := (by have := hb.size; (try simp at this); omega)))
                            all_goals
                              go_wp2
                              go_roundg g2
                              case measure => omega
                              case rel => exact ⟨j + 1, by omega, by go_num, by rw [← HFIN.out, Nat.add_assoc], (by repeat (first | with_reducible exact Below.refl _ _ | with_reducible refine bl_drew ?_ | with_reducible refine below_step ?_ (by assumption) | with_reducible assumption))⟩
      · have hb3 : ((nm.length : Int) != (n : Int) - 1) = true := by simpa using hle
        have E := mkHid (show factsT n l nm = ⟨#[]⟩ by unfold factsT fitB; rw [hno]; simp [hle])
        clear hle
        go_enter Tryd.func6, Tryd.ntmps6
        go_wp2_with fail
        rw [HW1.out]
        go_wp2_with fail
        refine (HNO.out _).mono ?_
        rintro e w2 ⟨rfl, hb⟩
        have B1 := mkHid (B0.out.below hb)
        clear hb p0 p1
        have p0 := B1.out.c0
        have p1 := B1.out.c1
        go_wp2_with fail
        refine (HOK.out _ B1.out.bel).mono ?_
        rintro e w3 ⟨rfl, hb⟩
        have B2 := mkHid (B1.out.below hb)
        clear hb p0 p1
        have p0 := B2.out.c0
        have p1 := B2.out.c1
        go_wp2
        go_ret
        exact ⟨ret_str E.out.symm, B2.out.bel⟩
end Go.Proofs.YthfiblldccnjcaaDoor
