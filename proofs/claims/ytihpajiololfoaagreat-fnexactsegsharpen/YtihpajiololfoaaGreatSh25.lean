/-
  CONTRACT of the specification's l07Close.
  CONTRACTS of what the laws do with facts: szFacts, toFacts, eqFacts, markFacts, heldFacts.
-/
import Derived.Test.YtihpajiololfoaaGreatSh24
namespace Go.Proofs.YtihpajiololfoaaGreat.Q
open Go.RowKit

theorem one_cell_ints (l : List Int) : ∀ v ∈ ints l, v.oneCell' = true := fun v hv => by simp only [ints, List.mem_map] at hv; obtain ⟨x, _, rfl⟩ := hv; rfl
theorem Fz.drewN {w : World} {b : Nat} (h : Fz w b) (k : Nat) : Fz (w.drewN k) b := h.below ⟨rfl, rfl, rfl, Nat.le_refl _, fun _ _ => rfl⟩
theorem own_drewN {w : World} {base : Nat} {v : Value} {l : List Int} (h : OwnI w base v l) (k : Nat) : OwnI (w.drewN k) base v l := h.below ⟨rfl, rfl, rfl, Nat.le_refl _, fun _ _ => rfl⟩
theorem OwnI.len {w : World} {base : Nat} {ao : Option Addr} {n cap : Nat} {l : List Int} (h : OwnI w base (.slice ao n cap) l) : n = l.length := by
  obtain ⟨_, _, e⟩ := h.form
  simp at e
  exact e.2.1
theorem OwnI.cell {w : World} {base g n cap : Nat} {l : List Int} (h : OwnI w base (.slice (some ⟨g, 0, none⟩) n cap) l) {p : Nat} (hp : p < l.length) : w.cell? ⟨g, p, none⟩ = some (.int .i64 (l.getD p 0)) := by
  have e := h.len
  subst e
  have := World.ownsRow.cellAt h p (by omega)
  rw [this, ints_get, get_of hp]; rfl
theorem OwnI.free {w : World} {base g n cap : Nat} {l : List Int} (h : OwnI w base (.slice (some ⟨g, 0, none⟩) n cap) l) (p : Nat) : w.frozen? ⟨g, p, none⟩ = false := by
  have e := h.len
  subst e
  exact World.ownsRow.frozenAt h p
theorem OwnI.stored {w : World} {base g n cap : Nat} {l : List Int} (h : OwnI w base (.slice (some ⟨g, 0, none⟩) n cap) l) (p : Nat) (x : Int) : OwnI (w.setCell ⟨g, p, none⟩ (.int .i64 x)) base (.slice (some ⟨g, 0, none⟩) n cap) (l.set p x) ∧ w.grownBy (w.setCell ⟨g, p, none⟩ (.int .i64 x)) (some g) := by
  have e := h.len
  subst e
  have := World.ownsRow.stored h p (.int .i64 x)
  rw [ints_set] at this
  refine ⟨?_, this.2⟩
  unfold OwnI
  rw [List.length_set]
  exact this.1
theorem OwnI.base_le {w : World} {base g n cap : Nat} {l : List Int} (h : OwnI w base (.slice (some ⟨g, 0, none⟩) n cap) l) : base ≤ g ∧ g < w.heap.size := h.lt rfl
theorem negS_some {n t : Nat} {m : List Int} (ht : t < n) (h : m.getD (t * n + t) 0 < 0) : negS n n m = true := by
  unfold negS
  rw [List.any_eq_true]
  exact ⟨t, List.mem_range.2 ht, decide_eq_true h⟩
theorem negS_no {n : Nat} {m : List Int} (h : ∀ t, t < n → ¬ m.getD (t * n + t) 0 < 0) : negS n n m = false := by
  unfold negS
  rw [List.any_eq_false]
  exact fun t ht => by simpa using h t (List.mem_range.1 ht)
/-- What the specification's closing answers. -/
def outSz (n : Nat) (o : Option (List Int)) : Int := match o with | some _ => n | none => 0
def outSl (o : Option (List Int)) : List Int := match o with | some m => m | none => []
theorem stS_len {n : Nat} {m : List Int} : ∀ k m', stS n m k = some m' → m'.length = m.length
  | 0, m', h => by cases h; rfl
  | k + 1, m', h => by
    rw [stS] at h
    cases e : stS n m k with
    | none => rw [e] at h; cases h
    | some m1 =>
      rw [e] at h
      simp only [Option.bind_some] at h
      split at h
      · cases h
      · cases h
        rw [passS_len]; exact stS_len k m1 e
theorem stS_dead {n : Nat} {m : List Int} {k : Nat} (h : stS n m k = none) : ∀ j, stS n m (k + j) = none
  | 0 => h
  | j + 1 => by show stS n m (k + j + 1) = none; rw [stS, stS_dead h j]; rfl
set_option maxRecDepth 100000 in
set_option maxHeartbeats 3200000 in
theorem sClose_of (n : Nat) (hn1 : 1 ≤ n) (hn2 : n ≤ 13) (l : List Int) (hl : l.length = n * n) (a : Option Addr) (c : Nat) (w : World) (hA : IntsAt w a l) : Calls Tryz.prog 126 #[.int .i64 n, .slice a l.length c] w fun e w' => Gives w w' e (outSz n (stS n l n)) (outSl (stS n l n)) := by
  obtain ⟨i0, hi, hz⟩ := Option.map_eq_some_iff.1 Tryz.info3
  simp only [Prod.mk.injEq] at hz
  obtain ⟨hz0, hz1, hz2⟩ := hz
  have HI := mkHid (show Tryz.prog.info? 3 = some i0 ∧ i0.zero = some (.int .i64 0) ∧ i0.size = 1 ∧ i0.bytes = 8 from ⟨hi, hz0, hz1, hz2⟩)
  have hq1 := sq_le hn2
  have hq0 := sq_pos hn1
  obtain ⟨q, hq⟩ : ∃ q, n * n = q := ⟨_, rfl⟩
  have HQ := mkHid hq
  have HLL := mkHid hl
  rw [hq] at hq1 hq0 hl
  obtain ⟨b, o, rfl, hat⟩ : ∃ b o, a = some ⟨b, o, none⟩ ∧ ∀ (i : Nat) (x : Int), l[i]? = some x → w.cell? ⟨b, o + i, none⟩ = some (.int .i64 x) := by
    rcases hA with h | h
    · subst h; simp at hl; omega
    · exact h
  have HAT := mkHid hat
  have HSRC : Hid (∀ v, Below w.heap.size w v → ∀ j u, (ints l)[j]? = some u → v.cell? ((⟨b, o, none⟩ : Addr).add j) = some u) := mkHid fun v hv j u hu => by
    rw [ints_get] at hu
    obtain ⟨x, hx, rfl⟩ := Option.map_eq_some_iff.1 hu
    have h1 := HAT.out j x hx
    rw [Addr.add_mid]
    exact (hv.cell (p := ⟨b, o + j, none⟩) (World.block_lt_of_cell? w _ h1)).trans h1
  have B0 := mkHid (((Below.refl w.heap.size w).alloc (Nat.le_refl _) (.cells #[.int .i64 0, .slice none 0 0] 38)).alloc (by simp) (.cells #[] 3))
  have Z0 := mkHid ((Fz.new w).alloc (.cells #[] 3))
  have E0 : Hid (OwnI ((w.alloc (.cells #[.int .i64 0, .slice none 0 0] 38)).alloc (.cells #[] 3)) (w.heap.size + 1) (.slice (some ⟨w.heap.size + 1, 0, none⟩) 0 0) []) := mkHid (OwnI.fresh (by omega) (by have := heap_alloc_last (w.alloc (.cells #[.int .i64 0, .slice none 0 0] 38)) (.cells #[] 3); simpa using this))
  have HL := mkHid hl
  rw [hl]
  clear hi hz0 hz1 hz2 hq hat hA hl
  go_enter Tryz.func126, Tryz.ntmps126
  go_wp2_with (at_builtin; refine wpList_append_lies _ rfl _ _ 27 rfl (w.heap.size + 1) 3 i0 (.int .i64 0) 1 8 Tryz.underlying27 HI.out.1 HI.out.2.1 HI.out.2.2.1 HI.out.2.2.2 rfl (by decide) (.slice (some ⟨w.heap.size + 1, 0, none⟩) 0 0) 0 [] rfl E0.out ⟨b, o, none⟩ q c (ints l) rfl (by rw [ints_len, HL.out]; omega) (HSRC.out _ B0.out) (one_cell_ints l) ?c1 ?c2 ?c3 ?c4 _ rfl ?_; rotate_right; intro g cap w1 ho1 hg1 hat1 hlt1)
  case c1 => omega
  case c2 => unfold maxLen; omega
  case c3 => omega
  case c4 => simp
  have O1 : Hid (OwnI w1 (w.heap.size + 1) (.slice (some ⟨g, 0, none⟩) q cap) l) := mkHid (by unfold OwnI; rw [HL.out]; simpa using ho1)
  have B1 := mkHid (B0.out.grown hg1 (by simp; omega) (fun q hq => by simp [Value.ownBlock] at hq; omega))
  have Z1 := mkHid (Z0.out.grown hg1 (by simp [Value.ownBlock]))
  clear ho1 hg1 hat1 B0 Z0 E0
  have HSQ : Hid (∀ i, i < n → i * n + n ≤ q) := mkHid fun i hi => by rw [← HQ.out, show i * n + n = (i + 1) * n by rw [Nat.add_mul]; omega]; exact Nat.mul_le_mul_right n hi
  go_wp2
  go_loopg [6] n (fun gh s wr => ∃ (k : Nat) (m : List Int), k + gh = n ∧ s = .int .i64 k ∧ stS n l k = some m ∧ OwnI wr (w.heap.size + 1) (.slice (some ⟨g, 0, none⟩) q cap) m ∧ Fz wr w.heap.size ∧ Below w.heap.size w wr)
  case atStart => exact ⟨0, l, by omega, rfl, rfl, O1.out, Z1.out, B1.out⟩
  case round =>
    obtain ⟨k, m, hkg, rfl, hst, hO, hZ, hB⟩ := hrel
    have HST := mkHid hst
    have HO := mkHid hO
    have HZ := mkHid hZ
    have HB := mkHid hB
    have HML : Hid (m.length = q) := mkHid (by rw [stS_len k m hst, HL.out])
    clear hst hO hB O1 Z1 B1
    cases gk with
    | zero =>
      have hlt : ¬ ((k : Int) < (n : Int)) := by omega
      have e : k = n := by omega
      subst e
      obtain ⟨⟨z0, z1⟩, z2, z3⟩ := hZ
      have HQL : Hid (q = m.length) := mkHid HML.out.symm
      go_wp2
      refine bodyPost_ret (v := .agg #[.int .i64 k, .slice (some ⟨g, 0, none⟩) q cap]) (by simp [results, Tryz.results126, go_sem, z0, z1]) rfl ?_
      rw [HST.out]
      refine ⟨some ⟨g, 0, none⟩, cap, by rw [HQL.out]; rfl, ?_, ?_⟩
      · have hlo : ∀ q', Value.ownBlock (.slice (some ⟨g, 0, none⟩) q cap) = some q' → some w.heap.size ≠ some q' := fun q' hq => some_ne (by have := HO.out.lt hq; omega)
        show OwnI _ _ (.slice (some ⟨g, 0, none⟩) m.length cap) m
        rw [← HQL.out]
        exact (OwnI.grown (OwnI.grown (HO.out.mono (base' := w.heap.size) (by omega)) (grown_setCell _ ⟨w.heap.size, 0, none⟩ _) hlo) (grown_setCell _ ⟨w.heap.size, 1, none⟩ _) hlo)
      · exact (HB.out.setCell (p := ⟨w.heap.size, 0, none⟩) (Nat.le_refl _) _).setCell (p := ⟨w.heap.size, 1, none⟩) (Nat.le_refl _) _
    | succ gh =>
      have hlt : (k : Int) < (n : Int) := by omega
      clear hZ
      obtain ⟨kn, hkn⟩ : ∃ kn, k * n = kn := ⟨_, rfl⟩
      have hkq : kn + n ≤ q := by rw [← hkn]; exact HSQ.out k (by omega)
      have hwk : IntKind.i64.wrap ((k : Int) * (n : Int)) = (kn : Int) := by rw [show (k : Int) * (n : Int) = ((k * n : Nat) : Int) by simp, hkn]; exact IntWalk.i64_in _ (by omega)
      have HKN := mkHid hkn
      clear hkn
      go_wp2
      go_loopg [7] n (fun g2 s wy => ∃ (i : Nat), i + g2 = n ∧ s = .int .i64 i ∧ OwnI wy (w.heap.size + 1) (.slice (some ⟨g, 0, none⟩) q cap) (passS n k i m) ∧ Fz wy w.heap.size ∧ Below w.heap.size w wy)
      case atStart => exact ⟨0, by omega, rfl, HO.out, HZ.out, HB.out⟩
      case round =>
        clear HO HZ HB
        obtain ⟨i, hig, rfl, hO, hZ, hB⟩ := hrel
        have HO := mkHid hO
        have HZ := mkHid hZ
        have HB := mkHid hB
        clear hO hZ hB
        cases gk with
        | zero =>
          have hlt2 : ¬ ((i : Int) < (n : Int)) := by omega
          have e : i = n := by omega
          subst e
          obtain ⟨M, hM⟩ : ∃ M, passS i k i m = M := ⟨_, rfl⟩
          have HMM : Hid (M.length = q) := mkHid (by rw [← hM, passS_len]; exact HML.out)
          have HSN : Hid (∀ b, negS i i M = b → stS i l (k + 1) = if b = true then none else some M) := mkHid fun b hb => by rw [stS, HST.out]; simp only [Option.bind_some]; rw [hM, hb]
          rw [hM] at HO
          clear hM
          go_wp2
          go_loopg [10] i (fun g3 s wz => ∃ (t : Nat), t + g3 = i ∧ s = .int .i64 t ∧ (∀ t', t' < t → ¬ M.getD (t' * i + t') 0 < 0) ∧ wz = wr)
          case atStart => exact ⟨0, by omega, rfl, fun t' h => by omega, rfl⟩
          case round =>
            obtain ⟨t, htg, rfl, hpos, rfl⟩ := hrel
            have HP := mkHid hpos
            clear hpos
            cases gk with
            | zero =>
              have hlt3 : ¬ ((t : Int) < (i : Int)) := by omega
              have e : t = i := by omega
              subst e
              have e2 : Hid (stS t l (k + 1) = some M) := mkHid (HSN.out false (negS_no HP.out))
              go_wp2
              go_roundg gh
              case measure => omega
              case rel => exact ⟨k + 1, M, by omega, by go_num, e2.out, HO.out, HZ.out, HB.out⟩
            | succ g3 =>
              have hlt3 : (t : Int) < (i : Int) := by omega
              obtain ⟨tn, htn⟩ : ∃ tn, t * i = tn := ⟨_, rfl⟩
              have htq : tn + i ≤ q := by rw [← htn]; exact HSQ.out t (by omega)
              have hwt : IntKind.i64.wrap ((t : Int) * (i : Int)) = (tn : Int) := by rw [show (t : Int) * (i : Int) = ((t * i : Nat) : Int) by simp, htn]; exact IntWalk.i64_in _ (by omega)
              obtain ⟨x, hx⟩ : ∃ x, M.getD (tn + t) 0 = x := ⟨_, rfl⟩
              have c0 := HO.out.cell (p := tn + t) (by have := HMM.out; omega)
              rw [hx] at c0
              have HX : Hid (M.getD (t * i + t) 0 = x) := mkHid (by rw [htn]; exact hx)
              clear hx htn
              have t0 : (0 : Int) ≤ (tn : Int) + (t : Int) := by omega
              have t1 : (tn : Int) + (t : Int) < (q : Int) := by omega
              by_cases hneg : x < 0
              · have e2 : Hid (stS i l i = none) := mkHid (by
                  have h1 : stS i l (k + 1) = none := HSN.out true (negS_some (t := t) (by omega) (by rw [HX.out]; exact hneg))
                  have := stS_dead h1 (i - (k + 1))
                  rwa [show k + 1 + (i - (k + 1)) = i by omega] at this)
                obtain ⟨⟨z0, z1⟩, z2, z3⟩ := HZ.out
                go_wp2
                refine bodyPost_ret (v := .agg #[.int .i64 0, .slice none 0 0]) (by simp [results, Tryz.results126, go_sem, z0, z1]) rfl ?_
                rw [e2.out]
                exact ⟨none, 0, rfl, OwnI.nil _ _, (HB.out.setCell (p := ⟨w.heap.size, 0, none⟩) (Nat.le_refl _) _).setCell (p := ⟨w.heap.size, 1, none⟩) (Nat.le_refl _) _⟩
              · have HN : Hid (∀ t', t' < t + 1 → ¬ M.getD (t' * i + t') 0 < 0) := mkHid fun t' ht' => by
                  by_cases e : t' = t
                  · subst e; rw [HX.out]; exact hneg
                  · exact HP.out t' (by omega)
                go_wp2
                go_roundg g3
                case measure => omega
                case rel => exact ⟨t + 1, by omega, by go_num, HN.out, rfl⟩
        | succ g2 =>
          have hlt2 : (i : Int) < (n : Int) := by omega
          obtain ⟨im, him⟩ : ∃ im, i * n = im := ⟨_, rfl⟩
          have hiq : im + n ≤ q := by rw [← him]; exact HSQ.out i (by omega)
          have hwi : IntKind.i64.wrap ((i : Int) * (n : Int)) = (im : Int) := by rw [show (i : Int) * (n : Int) = ((i * n : Nat) : Int) by simp, him]; exact IntWalk.i64_in _ (by omega)
          have HIM := mkHid him
          obtain ⟨P, hP⟩ : ∃ P, passS n k i m = P := ⟨_, rfl⟩
          have HP : Hid (passS n k (i + 1) m = rowS n k i n P) := mkHid (by rw [← hP]; rfl)
          have HPL : Hid (P.length = q) := mkHid (by rw [← hP, passS_len]; exact HML.out)
          rw [hP] at HO
          clear hP him
          go_wp2
          go_loopg [8] n (fun g3 s wz => ∃ (j : Nat), j + g3 = n ∧ s = .int .i64 j ∧ OwnI wz (w.heap.size + 1) (.slice (some ⟨g, 0, none⟩) q cap) (rowS n k i j P) ∧ Fz wz w.heap.size ∧ Below w.heap.size w wz)
          case atStart => exact ⟨0, by omega, rfl, HO.out, HZ.out, HB.out⟩
          case round =>
            clear HO HZ HB
            obtain ⟨j, hjg, rfl, hO, hZ, hB⟩ := hrel
            have HO := mkHid hO
            have HZ := mkHid hZ
            have HB := mkHid hB
            clear hO hZ hB
            cases gk with
            | zero =>
              have hlt3 : ¬ ((j : Int) < (n : Int)) := by omega
              have e : j = n := by omega
              subst e
              go_wp2
              go_roundg g2
              case measure => omega
              case rel => exact ⟨i + 1, by omega, by go_num, by rw [HP.out]; exact HO.out, HZ.out, HB.out⟩
            | succ g3 =>
              have hlt3 : (j : Int) < (n : Int) := by omega
              obtain ⟨H, hH⟩ : ∃ H, rowS n k i j P = H := ⟨_, rfl⟩
              have HH : Hid (rowS n k i (j + 1) P = relax n k i j H) := mkHid (by rw [← hH]; rfl)
              have hHL : H.length = q := by rw [← hH, rowS_len]; exact HPL.out
              rw [hH] at HO
              clear hH
              obtain ⟨x1, hx1⟩ : ∃ x, H.getD (im + k) 0 = x := ⟨_, rfl⟩
              obtain ⟨x2, hx2⟩ : ∃ x, H.getD (kn + j) 0 = x := ⟨_, rfl⟩
              obtain ⟨x3, hx3⟩ : ∃ x, H.getD (im + j) 0 = x := ⟨_, rfl⟩
              have c1 := HO.out.cell (p := im + k) (by omega)
              have c2 := HO.out.cell (p := kn + j) (by omega)
              have c3 := HO.out.cell (p := im + j) (by omega)
              rw [hx1] at c1
              rw [hx2] at c2
              rw [hx3] at c3
              have f3 := HO.out.free (im + j)
              have HR0 : Hid (relax n k i j H = if IntKind.i64.wrap (x1 + x2) < x3 then H.set (im + j) (IntKind.i64.wrap (x1 + x2)) else H) := mkHid (by unfold relax; rw [HIM.out, HKN.out, hx1, hx2, hx3])
              have HHL := mkHid hHL
              clear hx1 hx2 hx3 hHL
              have a0 : (0 : Int) ≤ (im : Int) + (k : Int) := by omega
              have a1 : (im : Int) + (k : Int) < (q : Int) := by omega
              have a2 : (0 : Int) ≤ (kn : Int) + (j : Int) := by omega
              have a3 : (kn : Int) + (j : Int) < (q : Int) := by omega
              have a4 : (0 : Int) ≤ (im : Int) + (j : Int) := by omega
              have a5 : (im : Int) + (j : Int) < (q : Int) := by omega
              obtain ⟨y, hy⟩ : ∃ y, IntKind.i64.wrap (x1 + x2) = y := ⟨_, rfl⟩
              rw [hy] at HR0
              by_cases hw : y < x3
              · go_wp2
                go_quiet (fail)
                go_wp2
                go_roundg g3
                case measure => omega
                case rel =>
                  have hog := HO.out.base_le
                  have hB := HB.out.size
                  refine ⟨j + 1, by omega, by go_num, ?_, ?_, ?_⟩
                  · rw [HH.out, HR0.out, if_pos (by omega)]
                    exact ((own_drewN HO.out _).stored (im + j) y).1
                  · exact (HZ.out.drewN _).grown ((own_drewN HO.out _).stored (im + j) y).2 (some_ne (by omega))
                  · exact (below_drewN HB.out _).grown ((own_drewN HO.out _).stored (im + j) y).2 HB.out.size (fun q' hq' => by cases hq'; omega)
              · go_wp2
                go_quiet (fail)
                go_wp2
                go_roundg g3
                case measure => omega
                case rel => exact ⟨j + 1, by omega, by go_num, by rw [HH.out, HR0.out, if_neg (by omega)]; exact own_drewN HO.out _, HZ.out.drewN _, below_drewN HB.out _⟩
end Go.Proofs.YtihpajiololfoaaGreat.Q
namespace Go.Proofs.YtihpajiololfoaaGreat.Q
open Go.RowKit

def szR (left : Int) (n : Nat) : Int := if (n : Int) ≤ left then left - n else -1
set_option maxRecDepth 100000 in
set_option maxHeartbeats 400000 in
theorem szIntS_any (a : Option Addr) (n c : Nat) (left : Int) (w : World) (hn : n ≤ maxLen) (h0 : 0 ≤ left) (h1 : left ≤ 1048576) : Calls Tryz.prog 33 #[.slice a n c, .int .i64 left] w fun e w' => e = .returned (.int .i64 (szR left n)) ∧ w = w' := by
  unfold maxLen at hn
  have hw : IntKind.i64.wrap (left - (n : Int)) = left - n := IntWalk.i64_in _ (by omega)
  by_cases h : (n : Int) ≤ left
  · have e := mkHid (show szR left n = left - n from if_pos h)
    have hlt : ¬ (left - (n : Int) < 0) := by omega
    clear h
    go_enter Tryz.func33, Tryz.ntmps33
    go_wp2
    go_ret
    exact ⟨ret_int e.out.symm, rfl⟩
  · have e := mkHid (show szR left n = -1 from if_neg h)
    have hlt : left - (n : Int) < 0 := by omega
    clear h
    go_enter Tryz.func33, Tryz.ntmps33
    go_wp2
    go_ret
    exact ⟨ret_int e.out.symm, rfl⟩
set_option maxRecDepth 100000 in
set_option maxHeartbeats 400000 in
theorem szFacts_any (z : Int) (a : Option Addr) (n c : Nat) (left : Int) (w : World) (hn : n ≤ maxLen) (h0 : 0 ≤ left) (h1 : left ≤ 1048576) : Calls Tryz.prog 9 #[.agg #[.int .i64 z, .slice a n c], .int .i64 left] w fun e w' => e = .returned (.int .i64 (szR left n)) ∧ Below w.heap.size w w' := by
  have HN := mkHid hn
  have H0 := mkHid h0
  have H1 := mkHid h1
  obtain ⟨r, hr⟩ : ∃ r, szR left n = r := ⟨_, rfl⟩
  have HC : Hid (∀ v, Calls Tryz.prog 33 #[.slice a n c, .int .i64 left] v fun e w' => e = .returned (.int .i64 r) ∧ v = w') := mkHid fun v => by rw [← hr]; exact szIntS_any a n c left v HN.out H0.out H1.out
  rw [hr]
  have HR : Hid (r < 0 → r = -1) := mkHid fun h => by unfold szR at hr; split at hr <;> omega
  clear hr hn h0 h1
  by_cases h : r < 0
  · have e := mkHid (HR.out h)
    go_enter Tryz.func9, Tryz.ntmps9
    go_wp2_with (go_at_call 33; refine (HC.out _).mono ?_; rintro e w' ⟨rfl, rfl⟩)
    go_ret
    exact ⟨ret_int e.out.symm, (Below.refl _ _).alloc (Nat.le_refl _) _⟩
  · go_enter Tryz.func9, Tryz.ntmps9
    go_wp2_with (go_at_call 33; refine (HC.out _).mono ?_; rintro e w' ⟨rfl, rfl⟩)
    go_ret
    exact ⟨rfl, (Below.refl _ _).alloc (Nat.le_refl _) _⟩
set_option maxRecDepth 100000 in
set_option maxHeartbeats 800000 in
theorem toFacts_any (z : Int) (l : List Int) (a : Option Addr) (c : Nat) (w : World) (hn : l.length ≤ 1048576) (hl : IntsAt w a l) : Calls Tryz.prog 12 #[.agg #[.int .i64 z, .slice a l.length c]] w fun e w' => ∃ g, e = .returned (.agg #[.int .i64 z, .slice (some ⟨g, 0, none⟩) l.length l.length]) ∧ OwnI w' w.heap.size (.slice (some ⟨g, 0, none⟩) l.length l.length) l ∧ Below w.heap.size w w' := by
  have HN := mkHid hn
  have HL := mkHid hl
  clear hn hl
  have B0 : Hid (Below w.heap.size w (((w.alloc (.cells #[.int .i64 z, .slice a l.length c] 29)).alloc (.cells #[.int .i64 0, .slice none 0 0] 38)).alloc (.cells #[.int .i64 z, .slice none 0 0] 38))) :=
    mkHid ((((Below.refl _ _).alloc (Nat.le_refl _) _).alloc (by simp) _).alloc (by simp; omega) _)
  obtain ⟨W, hW⟩ : ∃ W, ((w.alloc (.cells #[.int .i64 z, .slice a l.length c] 29)).alloc (.cells #[.int .i64 0, .slice none 0 0] 38)).alloc (.cells #[.int .i64 z, .slice none 0 0] 38) = W := ⟨_, rfl⟩
  have q0 : W.cell? ⟨w.heap.size + 1 + 1, 0, none⟩ = some (.int .i64 z) := by rw [← hW]; simp [go_sem]
  have q1 : W.cell? ⟨w.heap.size + 1 + 1, 1, none⟩ = some (.slice none 0 0) := by rw [← hW]; simp [go_sem]
  have q2 : W.frozen? ⟨w.heap.size + 1 + 1, 1, none⟩ = false := by rw [← hW]; simp [go_sem]
  have q3 : W.cell? ⟨w.heap.size + 1, 0, none⟩ = some (.int .i64 0) := by rw [← hW]; simp [go_sem]
  have q4 : W.cell? ⟨w.heap.size + 1, 1, none⟩ = some (.slice none 0 0) := by rw [← hW]; simp [go_sem]
  have q5 : W.frozen? ⟨w.heap.size + 1, 0, none⟩ = false := by rw [← hW]; simp [go_sem]
  have q6 : W.frozen? ⟨w.heap.size + 1, 1, none⟩ = false := by rw [← hW]; simp [go_sem]
  have qs : w.heap.size + 1 + 1 < W.heap.size := World.block_lt_of_cell? W _ q0
  rw [hW] at B0
  have HQ := mkHid (show W.cell? ⟨w.heap.size + 1 + 1, 0, none⟩ = some (.int .i64 z) ∧ W.cell? ⟨w.heap.size + 1 + 1, 1, none⟩ = some (.slice none 0 0) ∧ W.frozen? ⟨w.heap.size + 1 + 1, 1, none⟩ = false ∧ W.cell? ⟨w.heap.size + 1, 0, none⟩ = some (.int .i64 0) ∧ W.cell? ⟨w.heap.size + 1, 1, none⟩ = some (.slice none 0 0) ∧ W.frozen? ⟨w.heap.size + 1, 0, none⟩ = false ∧ W.frozen? ⟨w.heap.size + 1, 1, none⟩ = false from ⟨q0, q1, q2, q3, q4, q5, q6⟩)
  have HW := mkHid hW
  clear hW q0 q1 q2 q3 q4 q5 q6
  go_enter Tryz.func12, Tryz.ntmps12
  go_wp2_with fail
  rw [HW.out]
  refine (toIntS_any l a c W HN.out (HL.out.below B0.out)).mono ?_
  rintro e w1 ⟨g, rfl, ho, hb⟩
  have hlt := ho.base_le
  obtain ⟨p0, p1, p2, p3, p4, p5, p6⟩ := HQ.out
  have r0 := (hb.cell (p := ⟨w.heap.size + 1 + 1, 0, none⟩) qs).trans p0
  have r1 := (hb.cell (p := ⟨w.heap.size + 1 + 1, 1, none⟩) qs).trans p1
  have r2 := (hb.frozen (p := ⟨w.heap.size + 1 + 1, 1, none⟩) qs).trans p2
  have r3 := (hb.cell (p := ⟨w.heap.size + 1, 0, none⟩) (Nat.lt_trans (Nat.lt_succ_self _) qs)).trans p3
  have r4 := (hb.cell (p := ⟨w.heap.size + 1, 1, none⟩) (Nat.lt_trans (Nat.lt_succ_self _) qs)).trans p4
  have r5 := (hb.frozen (p := ⟨w.heap.size + 1, 0, none⟩) (Nat.lt_trans (Nat.lt_succ_self _) qs)).trans p5
  have r6 := (hb.frozen (p := ⟨w.heap.size + 1, 1, none⟩) (Nat.lt_trans (Nat.lt_succ_self _) qs)).trans p6
  have B1 := mkHid (below_step B0.out hb)
  have HO := mkHid (show OwnI w1 w.heap.size (.slice (some ⟨g, 0, none⟩) l.length l.length) l from ho.mono (by have := B0.out.size; omega))
  have hg : w.heap.size + 1 + 1 < g := by omega
  clear p0 p1 p2 p3 p4 p5 p6 hb ho HQ HW B0
  go_wp2
  refine bodyPost_ret (v := .agg #[.int .i64 z, .slice (some ⟨g, 0, none⟩) l.length l.length]) (by simp [results, Tryz.results12, go_sem, r3, r4]) rfl ⟨g, rfl, ?_, ?_⟩
  · have hlo : ∀ b, b < g → ∀ q, Value.ownBlock (.slice (some ⟨g, 0, none⟩) l.length l.length) = some q → some b ≠ some q := fun b hb q hq => by have e : g = q := Option.some.inj hq; subst e; exact some_ne (by omega)
    exact ((HO.out.grown (grown_setCell _ ⟨w.heap.size + 1 + 1, 1, none⟩ _) (hlo _ (by dsimp only; omega))).grown (grown_setCell _ ⟨w.heap.size + 1, 0, none⟩ _) (hlo _ (by dsimp only; omega))).grown (grown_setCell _ ⟨w.heap.size + 1, 1, none⟩ _) (hlo _ (by dsimp only; omega))
  · exact ((B1.out.setCell (p := ⟨w.heap.size + 1 + 1, 1, none⟩) (by simp; omega) _).setCell (p := ⟨w.heap.size + 1, 0, none⟩) (by simp) _).setCell (p := ⟨w.heap.size + 1, 1, none⟩) (by simp) _
set_option maxRecDepth 100000 in
set_option maxHeartbeats 400000 in
theorem eqFacts_ok (z : Int) (l : List Int) (a a' : Option Addr) (c c' : Nat) (w : World) (hn : l.length ≤ maxLen) (hl : IntsAt w a l) (hl' : IntsAt w a' l) : Calls Tryz.prog 15 #[.agg #[.int .i64 z, .slice a l.length c], .agg #[.int .i64 z, .slice a' l.length c']] w fun e w' => e = .returned (.bool true) ∧ Below w.heap.size w w' := by
  have B0 := mkHid (((Below.refl w.heap.size w).alloc (Nat.le_refl _) (.cells #[.int .i64 z, .slice a l.length c] 38)).alloc (by simp) (.cells #[.int .i64 z, .slice a' l.length c'] 38))
  have HN := mkHid hn
  have HL := mkHid hl
  have HL' := mkHid hl'
  clear hn hl hl'
  go_enter Tryz.func15, Tryz.ntmps15
  go_wp2_with fail
  refine (eqIntS_ok l a a' c c' _ HN.out (HL.out.below B0.out) (HL'.out.below B0.out)).mono ?_
  rintro e w1 ⟨rfl, hb⟩
  have B1 := mkHid (below_step B0.out hb)
  clear hb
  go_wp2
  go_ret
  exact ⟨rfl, B1.out⟩
set_option maxHeartbeats 400000 in
theorem markFacts_ok (z : Int) (l : List Int) (ao : Option Addr) (cap base : Nat) (k0 : Int) (w : World) (hn : l.length ≤ 10000000) (h0 : 0 ≤ k0) (h1 : k0 ≤ 10000000) (hown : OwnI w base (.slice ao l.length cap) l) :
    Calls Tryz.prog 17 #[.agg #[.int .i64 z, .slice ao l.length cap], .int .i64 k0] w fun e w' => e = .returned (.int .i64 (k0 + l.length)) ∧ OwnI w' base (.slice ao l.length cap) (marksI k0 l.length) ∧ w.grownBy w' (Value.ownBlock (.slice ao l.length cap)) := by
  have A0 := mkHid ((Below.refl w.heap.size w).alloc (Nat.le_refl _) (.cells #[.int .i64 z, .slice ao l.length cap] 38))
  have G0 := mkHid (World.grownBy_alloc w (.cells #[.int .i64 z, .slice ao l.length cap] 38) (Value.ownBlock (.slice ao l.length cap)))
  have HN := mkHid hn
  have H0 := mkHid h0
  have H1 := mkHid h1
  have HO := mkHid hown
  clear hn h0 h1 hown
  go_enter Tryz.func17, Tryz.ntmps17
  go_wp2_with fail
  refine (markIntS_ok l ao cap base k0 _ HN.out H0.out H1.out (HO.out.below A0.out)).mono ?_
  rintro e w1 ⟨rfl, ho, hg⟩
  have HO1 := mkHid ho
  have HG1 := mkHid (World.grownBy.trans G0.out hg)
  clear ho hg
  go_wp2
  go_ret
  exact ⟨rfl, HO1.out, HG1.out⟩
end Go.Proofs.YtihpajiololfoaaGreat.Q
