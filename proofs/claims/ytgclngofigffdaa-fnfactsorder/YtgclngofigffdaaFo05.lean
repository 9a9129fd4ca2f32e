/-
  CONTRACT of the specification's l07Close.
  CONTRACTS of what the laws do with facts: szFacts, toFacts, eqFacts, markFacts, heldFacts.
  CONTRACT of the program's closed.
-/
import Derived.Test.YtgclngofigffdaaFo04
import Derived.Test.YtgclngofigffdaaFo02
import Derived.WalkMore
namespace Go.Proofs.Ytgclngofigffdaa
open Go.RowKit

theorem one_cell_ints (l : List Int) : ∀ v ∈ ints l, v.oneCell' = true := fun v hv => by simp only [ints, List.mem_map] at hv; obtain ⟨x, _, rfl⟩ := hv; rfl
theorem Fz.drewN {w : World} {b : Nat} (h : Fz w b) (k : Nat) : Fz (w.drewN k) b := h.below ⟨rfl, rfl, rfl, Nat.le_refl _, fun _ _ => rfl⟩
theorem own_drewN {w : World} {base : Nat} {v : Value} {l : List Int} (h : OwnI w base v l) (k : Nat) : OwnI (w.drewN k) base v l := h.below ⟨rfl, rfl, rfl, Nat.le_refl _, fun _ _ => rfl⟩
theorem OwnI.len {w : World} {base : Nat} {ao : Option Addr} {n cap : Nat} {l : List Int} (h : OwnI w base (.slice ao n cap) l) : n = l.length := by
  obtain ⟨_, _, e⟩ := h.form
  simp at e
  exact e.2.1
theorem OwnI.cell {w : World} {base g n cap : Nat} {l : List Int} (h : OwnI w base (.slice (some ⟨g, 0, none⟩) n cap) l) {p : Nat} (hp : p < l.length) : w.cell? ⟨g, p, none⟩ = some (.int .i64 (l.getD p 0)) := by
  have e := h.len
  subst e
  have := World.ownsRow.cellAt h p (by omega)
  rw [this, ints_get, get_of hp]; rfl
theorem OwnI.free {w : World} {base g n cap : Nat} {l : List Int} (h : OwnI w base (.slice (some ⟨g, 0, none⟩) n cap) l) (p : Nat) : w.frozen? ⟨g, p, none⟩ = false := by
  have e := h.len
  subst e
  exact World.ownsRow.frozenAt h p
theorem OwnI.stored {w : World} {base g n cap : Nat} {l : List Int} (h : OwnI w base (.slice (some ⟨g, 0, none⟩) n cap) l) (p : Nat) (x : Int) : OwnI (w.setCell ⟨g, p, none⟩ (.int .i64 x)) base (.slice (some ⟨g, 0, none⟩) n cap) (l.set p x) ∧ w.grownBy (w.setCell ⟨g, p, none⟩ (.int .i64 x)) (some g) := by
  have e := h.len
  subst e
  have := World.ownsRow.stored h p (.int .i64 x)
  rw [ints_set] at this
  refine ⟨?_, this.2⟩
  unfold OwnI
  rw [List.length_set]
  exact this.1
theorem OwnI.base_le {w : World} {base g n cap : Nat} {l : List Int} (h : OwnI w base (.slice (some ⟨g, 0, none⟩) n cap) l) : base ≤ g ∧ g < w.heap.size := h.lt rfl
theorem negS_some {n t : Nat} {m : List Int} (ht : t < n) (h : m.getD (t * n + t) 0 < 0) : negS n n m = true := by
  unfold negS
  rw [List.any_eq_true]
  exact ⟨t, List.mem_range.2 ht, decide_eq_true h⟩
theorem negS_no {n : Nat} {m : List Int} (h : ∀ t, t < n → ¬ m.getD (t * n + t) 0 < 0) : negS n n m = false := by
  unfold negS
  rw [List.any_eq_false]
  exact fun t ht => by simpa using h t (List.mem_range.1 ht)
/-- What the specification's closing answers. -/
def outSz (n : Nat) (o : Option (List Int)) : Int := match o with | some _ => n | none => 0
def outSl (o : Option (List Int)) : List Int := match o with | some m => m | none => []
theorem stS_len {n : Nat} {m : List Int} : ∀ k m', stS n m k = some m' → m'.length = m.length
  | 0, m', h => by cases h; rfl
  | k + 1, m', h => by
    rw [stS] at h
    cases e : stS n m k with
    | none => rw [e] at h; cases h
    | some m1 =>
      rw [e] at h
      simp only [Option.bind_some] at h
      split at h
      · cases h
      · cases h
        rw [passS_len]; exact stS_len k m1 e
theorem stS_dead {n : Nat} {m : List Int} {k : Nat} (h : stS n m k = none) : ∀ j, stS n m (k + j) = none
  | 0 => h
  | j + 1 => by show stS n m (k + j + 1) = none; rw [stS, stS_dead h j]; rfl
set_option maxRecDepth 100000 in
set_option maxHeartbeats 3200000 in
theorem sClose_of (n : Nat) (hn1 : 1 ≤ n) (hn2 : n ≤ 13) (l : List Int) (hl : l.length = n * n) (a : Option Addr) (c : Nat) (w : World) (hA : IntsAt w a l) : Calls Try.prog 53 #[.int .i64 n, .slice a l.length c] w fun e w' => Gives w w' e (outSz n (stS n l n)) (outSl (stS n l n)) := by
  obtain ⟨i0, hi, hz⟩ := Option.map_eq_some_iff.1 Try.info3
  simp only [Prod.mk.injEq] at hz
  obtain ⟨hz0, hz1, hz2⟩ := hz
  have HI := mkHid (show Try.prog.info? 3 = some i0 ∧ i0.zero = some (.int .i64 0) ∧ i0.size = 1 ∧ i0.bytes = 8 from ⟨hi, hz0, hz1, hz2⟩)
  have hq1 := sq_le hn2
  have hq0 := sq_pos hn1
  obtain ⟨q, hq⟩ : ∃ q, n * n = q := ⟨_, rfl⟩
  have HQ := mkHid hq
  have HLL := mkHid hl
  rw [hq] at hq1 hq0 hl
  obtain ⟨b, o, rfl, hat⟩ : ∃ b o, a = some ⟨b, o, none⟩ ∧ ∀ (i : Nat) (x : Int), l[i]? = some x → w.cell? ⟨b, o + i, none⟩ = some (.int .i64 x) := by
    rcases hA with h | h
    · subst h; simp at hl; omega
    · exact h
  have HAT := mkHid hat
  have HSRC : Hid (∀ v, Below w.heap.size w v → ∀ j u, (ints l)[j]? = some u → v.cell? ((⟨b, o, none⟩ : Addr).add j) = some u) := mkHid fun v hv j u hu => by
    rw [ints_get] at hu
    obtain ⟨x, hx, rfl⟩ := Option.map_eq_some_iff.1 hu
    have h1 := HAT.out j x hx
    rw [Addr.add_mid]
    exact (hv.cell (p := ⟨b, o + j, none⟩) (World.block_lt_of_cell? w _ h1)).trans h1
  have B0 := mkHid (((Below.refl w.heap.size w).alloc (Nat.le_refl _) (.cells #[.int .i64 0, .slice none 0 0] 26)).alloc (by simp) (.cells #[] 3))
  have Z0 := mkHid ((Fz.new w).alloc (.cells #[] 3))
  have E0 : Hid (OwnI ((w.alloc (.cells #[.int .i64 0, .slice none 0 0] 26)).alloc (.cells #[] 3)) (w.heap.size + 1) (.slice (some ⟨w.heap.size + 1, 0, none⟩) 0 0) []) := mkHid (OwnI.fresh (by omega) (by have := heap_alloc_last (w.alloc (.cells #[.int .i64 0, .slice none 0 0] 26)) (.cells #[] 3); simpa using this))
  have HL := mkHid hl
  rw [hl]
  clear hi hz0 hz1 hz2 hq hat hA hl
  go_enter Try.func53, Try.ntmps53
  go_wp2_with (at_builtin; refine wpList_append_lies _ rfl _ _ 24 rfl (w.heap.size + 1) 3 i0 (.int .i64 0) 1 8 Try.underlying24 HI.out.1 HI.out.2.1 HI.out.2.2.1 HI.out.2.2.2 rfl (by decide) (.slice (some ⟨w.heap.size + 1, 0, none⟩) 0 0) 0 [] rfl E0.out ⟨b, o, none⟩ q c (ints l) rfl (by rw [ints_len, HL.out]; omega) (HSRC.out _ B0.out) (one_cell_ints l) ?c1 ?c2 ?c3 ?c4 _ rfl ?_; rotate_right; intro g cap w1 ho1 hg1 hat1 hlt1)
  case c1 => omega
  case c2 => unfold maxLen; omega
  case c3 => omega
  case c4 => simp
  have O1 : Hid (OwnI w1 (w.heap.size + 1) (.slice (some ⟨g, 0, none⟩) q cap) l) := mkHid (by unfold OwnI; rw [HL.out]; simpa using ho1)
  have B1 := mkHid (B0.out.grown hg1 (by simp; omega) (fun q hq => by simp [Value.ownBlock] at hq; omega))
  have Z1 := mkHid (Z0.out.grown hg1 (by simp [Value.ownBlock]))
  clear ho1 hg1 hat1 B0 Z0 E0
  have HSQ : Hid (∀ i, i < n → i * n + n ≤ q) := mkHid fun i hi => by rw [← HQ.out, show i * n + n = (i + 1) * n by rw [Nat.add_mul]; omega]; exact Nat.mul_le_mul_right n hi
  go_wp2
  go_loopg [6] n (fun gh s wr => ∃ (k : Nat) (m : List Int), k + gh = n ∧ s = .int .i64 k ∧ stS n l k = some m ∧ OwnI wr (w.heap.size + 1) (.slice (some ⟨g, 0, none⟩) q cap) m ∧ Fz wr w.heap.size ∧ Below w.heap.size w wr)
  case atStart => exact ⟨0, l, by omega, rfl, rfl, O1.out, Z1.out, B1.out⟩
  case round =>
    obtain ⟨k, m, hkg, rfl, hst, hO, hZ, hB⟩ := hrel
    have HST := mkHid hst
    have HO := mkHid hO
    have HZ := mkHid hZ
    have HB := mkHid hB
    have HML : Hid (m.length = q) := mkHid (by rw [stS_len k m hst, HL.out])
    clear hst hO hB O1 Z1 B1
    cases gk with
    | zero =>
      have hlt : ¬ ((k : Int) < (n : Int)) := by omega
      have e : k = n := by omega
      subst e
      obtain ⟨⟨z0, z1⟩, z2, z3⟩ := hZ
      have HQL : Hid (q = m.length) := mkHid HML.out.symm
      go_wp2
      refine bodyPost_ret (v := .agg #[.int .i64 k, .slice (some ⟨g, 0, none⟩) q cap]) (by simp [results, Try.results53, go_sem, z0, z1]) rfl ?_
      rw [HST.out]
      refine ⟨some ⟨g, 0, none⟩, cap, by rw [HQL.out]; rfl, ?_, ?_⟩
      · have hlo : ∀ q', Value.ownBlock (.slice (some ⟨g, 0, none⟩) q cap) = some q' → some w.heap.size ≠ some q' := fun q' hq => some_ne (by have := HO.out.lt hq; omega)
        show OwnI _ _ (.slice (some ⟨g, 0, none⟩) m.length cap) m
        rw [← HQL.out]
        exact (OwnI.grown (OwnI.grown (HO.out.mono (base' := w.heap.size) (by omega)) (grown_setCell _ ⟨w.heap.size, 0, none⟩ _) hlo) (grown_setCell _ ⟨w.heap.size, 1, none⟩ _) hlo)
      · exact (HB.out.setCell (p := ⟨w.heap.size, 0, none⟩) (Nat.le_refl _) _).setCell (p := ⟨w.heap.size, 1, none⟩) (Nat.le_refl _) _
    | succ gh =>
      have hlt : (k : Int) < (n : Int) := by omega
      clear hZ
      obtain ⟨kn, hkn⟩ : ∃ kn, k * n = kn := ⟨_, rfl⟩
      have hkq : kn + n ≤ q := by rw [← hkn]; exact HSQ.out k (by omega)
      have hwk : IntKind.i64.wrap ((k : Int) * (n : Int)) = (kn : Int) := by rw [show (k : Int) * (n : Int) = ((k * n : Nat) : Int) by simp, hkn]; exact IntWalk.i64_in _ (by omega)
      have HKN := mkHid hkn
      clear hkn
      go_wp2
      go_loopg [7] n (fun g2 s wy => ∃ (i : Nat), i + g2 = n ∧ s = .int .i64 i ∧ OwnI wy (w.heap.size + 1) (.slice (some ⟨g, 0, none⟩) q cap) (passS n k i m) ∧ Fz wy w.heap.size ∧ Below w.heap.size w wy)
      case atStart => exact ⟨0, by omega, rfl, HO.out, HZ.out, HB.out⟩
      case round =>
        clear HO HZ HB
        obtain ⟨i, hig, rfl, hO, hZ, hB⟩ := hrel
        have HO := mkHid hO
        have HZ := mkHid hZ
        have HB := mkHid hB
        clear hO hZ hB
        cases gk with
        | zero =>
          have hlt2 : ¬ ((i : Int) < (n : Int)) := by omega
          have e : i = n := by omega
          subst e
          obtain ⟨M, hM⟩ : ∃ M, passS i k i m = M := ⟨_, rfl⟩
          have HMM : Hid (M.length = q) := mkHid (by rw [← hM, passS_len]; exact HML.out)
          have HSN : Hid (∀ b, negS i i M = b → stS i l (k + 1) = if b = true then none else some M) := mkHid fun b hb => by rw [stS, HST.out]; simp only [Option.bind_some]; rw [hM, hb]
          rw [hM] at HO
          clear hM
          go_wp2
          go_loopg [10] i (fun g3 s wz => ∃ (t : Nat), t + g3 = i ∧ s = .int .i64 t ∧ (∀ t', t' < t → ¬ M.getD (t' * i + t') 0 < 0) ∧ wz = wr)
          case atStart => exact ⟨0, by omega, rfl, fun t' h => by omega, rfl⟩
          case round =>
            obtain ⟨t, htg, rfl, hpos, rfl⟩ := hrel
            have HP := mkHid hpos
            clear hpos
            cases gk with
            | zero =>
              have hlt3 : ¬ ((t : Int) < (i : Int)) := by omega
              have e : t = i := by omega
              subst e
              have e2 : Hid (stS t l (k + 1) = some M) := mkHid (HSN.out false (negS_no HP.out))
              go_wp2
              go_roundg gh
              case measure => omega
              case rel => exact ⟨k + 1, M, by omega, by go_num, e2.out, HO.out, HZ.out, HB.out⟩
            | succ g3 =>
              have hlt3 : (t : Int) < (i : Int) := by omega
              obtain ⟨tn, htn⟩ : ∃ tn, t * i = tn := ⟨_, rfl⟩
              have htq : tn + i ≤ q := by rw [← htn]; exact HSQ.out t (by omega)
              have hwt : IntKind.i64.wrap ((t : Int) * (i : Int)) = (tn : Int) := by rw [show (t : Int) * (i : Int) = ((t * i : Nat) : Int) by simp, htn]; exact IntWalk.i64_in _ (by omega)
              obtain ⟨x, hx⟩ : ∃ x, M.getD (tn + t) 0 = x := ⟨_, rfl⟩
              have c0 := HO.out.cell (p := tn + t) (by have := HMM.out; omega)
              rw [hx] at c0
              have HX : Hid (M.getD (t * i + t) 0 = x) := mkHid (by rw [htn]; exact hx)
              clear hx htn
              have t0 : (0 : Int) ≤ (tn : Int) + (t : Int) := by omega
              have t1 : (tn : Int) + (t : Int) < (q : Int) := by omega
              by_cases hneg : x < 0
              · have e2 : Hid (stS i l i = none) := mkHid (by
                  have h1 : stS i l (k + 1) = none := HSN.out true (negS_some (t := t) (by omega) (by rw [HX.out]; exact hneg))
                  have := stS_dead h1 (i - (k + 1))
                  rwa [show k + 1 + (i - (k + 1)) = i by omega] at this)
                obtain ⟨⟨z0, z1⟩, z2, z3⟩ := HZ.out
                go_wp2
                refine bodyPost_ret (v := .agg #[.int .i64 0, .slice none 0 0]) (by simp [results, Try.results53, go_sem, z0, z1]) rfl ?_
                rw [e2.out]
                exact ⟨none, 0, rfl, OwnI.nil _ _, (HB.out.setCell (p := ⟨w.heap.size, 0, none⟩) (Nat.le_refl _) _).setCell (p := ⟨w.heap.size, 1, none⟩) (Nat.le_refl _) _⟩
              · have HN : Hid (∀ t', t' < t + 1 → ¬ M.getD (t' * i + t') 0 < 0) := mkHid fun t' ht' => by
                  by_cases e : t' = t
                  · subst e; rw [HX.out]; exact hneg
                  · exact HP.out t' (by omega)
                go_wp2
                go_roundg g3
                case measure => omega
                case rel => exact ⟨t + 1, by omega, by go_num, HN.out, rfl⟩
        | succ g2 =>
          have hlt2 : (i : Int) < (n : Int) := by omega
          obtain ⟨im, him⟩ : ∃ im, i * n = im := ⟨_, rfl⟩
          have hiq : im + n ≤ q := by rw [← him]; exact HSQ.out i (by omega)
          have hwi : IntKind.i64.wrap ((i : Int) * (n : Int)) = (im : Int) := by rw [show (i : Int) * (n : Int) = ((i * n : Nat) : Int) by simp, him]; exact IntWalk.i64_in _ (by omega)
          have HIM := mkHid him
          obtain ⟨P, hP⟩ : ∃ P, passS n k i m = P := ⟨_, rfl⟩
          have HP : Hid (passS n k (i + 1) m = rowS n k i n P) := mkHid (by rw [← hP]; rfl)
          have HPL : Hid (P.length = q) := mkHid (by rw [← hP, passS_len]; exact HML.out)
          rw [hP] at HO
          clear hP him
          go_wp2
          go_loopg [8] n (fun g3 s wz => ∃ (j : Nat), j + g3 = n ∧ s = .int .i64 j ∧ OwnI wz (w.heap.size + 1) (.slice (some ⟨g, 0, none⟩) q cap) (rowS n k i j P) ∧ Fz wz w.heap.size ∧ Below w.heap.size w wz)
          case atStart => exact ⟨0, by omega, rfl, HO.out, HZ.out, HB.out⟩
          case round =>
            clear HO HZ HB
            obtain ⟨j, hjg, rfl, hO, hZ, hB⟩ := hrel
            have HO := mkHid hO
            have HZ := mkHid hZ
            have HB := mkHid hB
            clear hO hZ hB
            cases gk with
            | zero =>
              have hlt3 : ¬ ((j : Int) < (n : Int)) := by omega
              have e : j = n := by omega
              subst e
              go_wp2
              go_roundg g2
              case measure => omega
              case rel => exact ⟨i + 1, by omega, by go_num, by rw [HP.out]; exact HO.out, HZ.out, HB.out⟩
            | succ g3 =>
              have hlt3 : (j : Int) < (n : Int) := by omega
              obtain ⟨H, hH⟩ : ∃ H, rowS n k i j P = H := ⟨_, rfl⟩
              have HH : Hid (rowS n k i (j + 1) P = relax n k i j H) := mkHid (by rw [← hH]; rfl)
              have hHL : H.length = q := by rw [← hH, rowS_len]; exact HPL.out
              rw [hH] at HO
              clear hH
              obtain ⟨x1, hx1⟩ : ∃ x, H.getD (im + k) 0 = x := ⟨_, rfl⟩
              obtain ⟨x2, hx2⟩ : ∃ x, H.getD (kn + j) 0 = x := ⟨_, rfl⟩
              obtain ⟨x3, hx3⟩ : ∃ x, H.getD (im + j) 0 = x := ⟨_, rfl⟩
              have c1 := HO.out.cell (p := im + k) (by omega)
              have c2 := HO.out.cell (p := kn + j) (by omega)
              have c3 := HO.out.cell (p := im + j) (by omega)
              rw [hx1] at c1
              rw [hx2] at c2
              rw [hx3] at c3
              have f3 := HO.out.free (im + j)
              have HR0 : Hid (relax n k i j H = if IntKind.i64.wrap (x1 + x2) < x3 then H.set (im + j) (IntKind.i64.wrap (x1 + x2)) else H) := mkHid (by unfold relax; rw [HIM.out, HKN.out, hx1, hx2, hx3])
              have HHL := mkHid hHL
              clear hx1 hx2 hx3 hHL
              have a0 : (0 : Int) ≤ (im : Int) + (k : Int) := by omega
              have a1 : (im : Int) + (k : Int) < (q : Int) := by omega
              have a2 : (0 : Int) ≤ (kn : Int) + (j : Int) := by omega
              have a3 : (kn : Int) + (j : Int) < (q : Int) := by omega
              have a4 : (0 : Int) ≤ (im : Int) + (j : Int) := by omega
              have a5 : (im : Int) + (j : Int) < (q : Int) := by omega
              obtain ⟨y, hy⟩ : ∃ y, IntKind.i64.wrap (x1 + x2) = y := ⟨_, rfl⟩
              rw [hy] at HR0
              by_cases hw : y < x3
              · go_wp2
                go_quiet (fail)
                go_wp2
                go_roundg g3
                case measure => omega
                case rel =>
                  have hog := HO.out.base_le
                  have hB := HB.out.size
                  refine ⟨j + 1, by omega, by go_num, ?_, ?_, ?_⟩
                  · rw [HH.out, HR0.out, if_pos (by omega)]
                    exact ((own_drewN HO.out _).stored (im + j) y).1
                  · exact (HZ.out.drewN _).grown ((own_drewN HO.out _).stored (im + j) y).2 (some_ne (by omega))
                  · exact (below_drewN HB.out _).grown ((own_drewN HO.out _).stored (im + j) y).2 HB.out.size (fun q' hq' => by cases hq'; omega)
              · go_wp2
                go_quiet (fail)
                go_wp2
                go_roundg g3
                case measure => omega
                case rel => exact ⟨j + 1, by omega, by go_num, by rw [HH.out, HR0.out, if_neg (by omega)]; exact own_drewN HO.out _, HZ.out.drewN _, below_drewN HB.out _⟩
end Go.Proofs.Ytgclngofigffdaa
namespace Go.Proofs.Ytgclngofigffdaa
open Go.RowKit

end Go.Proofs.Ytgclngofigffdaa
namespace Go.Proofs.Ytgclngofigffdaa
open Go.RowKit

def outI (n : Nat) (o : Option (List Int)) : Array Value := match o with | some G => dA n G | none => dA 0 zs
set_option maxRecDepth 100000 in
set_option maxHeartbeats 1600000 in
theorem closed_any (n : Nat) (hn : n ≤ 13) (G : List Int) (hG : G.length = 169) (w : World) : Calls Try.prog 40 #[.agg (dA n G)] w fun e w' => e = .returned (.agg (outI n (stI n G n))) ∧ Below w.heap.size w w' := by
  have hz := zc64
  have h0 := dA0 n G
  have D0 := mkHid ((Dif.new w (n := n) hG 59).alloc (.cells (dA 0 zs) 59))
  have R0 := mkHid (Dif.new (w.alloc (.cells (dA n G) 59)) (n := 0) zs_len 59)
  have B0 := mkHid (((Below.refl w.heap.size w).alloc (Nat.le_refl _) (.cells (dA n G) 59)).alloc (by simp) (.cells (dA 0 zs) 59))
  go_enter Try.func40, Try.ntmps40
  go_wp2
  go_loopg [9] n (fun g s wr => ∃ (k : Nat) (G' : List Int), k + g = n ∧ s = .int .i64 k ∧ stI n G k = some G' ∧ Dif wr w.heap.size n G' ∧ Dif wr (w.heap.size + 1) 0 zs ∧ Below w.heap.size w wr)
  case atStart => exact ⟨0, G, by omega, rfl, rfl, D0.out, by simpa using R0.out, B0.out⟩
  case round =>
    obtain ⟨k, G', hkg, rfl, hst, hD, hR, hB⟩ := hrel
    have HST := mkHid hst
    have HD := mkHid hD
    have HR := mkHid hR
    have HB := mkHid hB
    have c0 := hD.size
    clear hst hR hB D0 R0 B0
    cases gk with
    | zero =>
      have hlt : ¬ ((k : Int) < (n : Int)) := by omega
      have e : k = n := by omega
      subst e
      clear hD
      go_wp2_with (first | (refine wp_load64 HD.out rfl rfl rfl ?_) | (refine wp_store64 HR.out HD.out.len rfl rfl rfl rfl ?_; intro w2 hD2 hg2))
      exact ret64 rfl hD2 rfl rfl ⟨by rw [HST.out]; rfl, HB.out.grown hg2 HB.out.size (fun q hq => by cases hq; omega)⟩
    | succ g =>
      have hlt : (k : Int) < (n : Int) := by omega
      have hk13 : (k : Int) < 13 := by omega
      have hl := hD.len
      obtain ⟨x, hx⟩ : ∃ x, G'.getD (k * 13 + k) 0 = x := ⟨_, rfl⟩
      have ck := hD.at (i := k) (j := k) (by omega) (by omega) hx
      have HX := mkHid hx
      have HLn := mkHid hl
      clear hD hx hl
      by_cases hneg : x < 0
      · have e : Hid (stI n G n = none) := by
          have h1 : stI n G (k + 1) = none := by rw [stI, HST.out]; simp only [Option.bind_some]; rw [if_pos (by rw [HX.out]; exact hneg)]
          have := stI_dead h1 (n - (k + 1))
          rw [show k + 1 + (n - (k + 1)) = n by omega] at this
          exact mkHid this
        go_wp2
        go_step3
        go_wp2_with (first | (refine wp_load64 HD.out rfl rfl rfl ?_) | (refine wp_store64 HR.out zs_len rfl rfl rfl rfl ?_; intro w2 hD2 hg2))
        rw [Exit.noGoto_ret]
        simp only [Exit.inBlock, Exit.then]
        exact ret64 rfl hD2 rfl rfl ⟨by rw [e.out]; rfl, HB.out.grown hg2 HB.out.size (fun q hq => by cases hq; omega)⟩
      · have HS1 : Hid (stI n G (k + 1) = some (passI n k n G')) := mkHid (by rw [stI, HST.out]; simp only [Option.bind_some]; rw [if_neg (by rw [HX.out]; exact hneg)])
        go_wp2
        go_step3
        go_wp2
        go_step3
        go_wp2
        clear ck c0 HST HX
        go_loopg [22] n (fun g2 s wy => ∃ (i : Nat), i + g2 = n ∧ s = .int .i64 i ∧ Dif wy w.heap.size n (passI n k i G') ∧ Dif wy (w.heap.size + 1) 0 zs ∧ Below w.heap.size w wy)
        case atStart => exact ⟨0, by omega, rfl, HD.out, HR.out, HB.out⟩
        case round =>
          clear HD HR HB
          obtain ⟨i, hig, rfl, hD, hR, hB⟩ := hrel
          have HD := mkHid hD
          have HR := mkHid hR
          have HB := mkHid hB
          have c0 := hD.size
          clear hD hR hB
          cases gk with
          | zero =>
            have hlt2 : ¬ ((i : Int) < (n : Int)) := by omega
            have e : i = n := by omega
            subst e
            go_wp2
            go_roundg g
            case measure => omega
            case rel => exact ⟨k + 1, _, by omega, by go_num, HS1.out, HD.out, HR.out, HB.out⟩
          | succ g2 =>
            have hlt2 : (i : Int) < (n : Int) := by omega
            obtain ⟨P, hP⟩ : ∃ P, passI n k i G' = P := ⟨_, rfl⟩
            have HP : Hid (passI n k (i + 1) G' = rowI n k i P) := mkHid (by rw [← hP]; rfl)
            rw [hP] at HD
            clear hP
            go_wp2
            go_step3
            go_wp2
            go_step3
            go_wp2
            clear c0
            go_loopg [27] n (fun g3 s wz => ∃ (j : Nat), j + g3 = n ∧ s = .int .i64 j ∧ (i = k → j = 0) ∧ Dif wz w.heap.size n (rowS 13 k i j P) ∧ Dif wz (w.heap.size + 1) 0 zs ∧ Below w.heap.size w wz)
            case atStart => exact ⟨0, by omega, rfl, fun _ => rfl, HD.out, HR.out, HB.out⟩
            case round =>
              clear HD HR HB
              obtain ⟨j, hjg, rfl, hik, hD, hR, hB⟩ := hrel
              have HD := mkHid hD
              have HR := mkHid hR
              have HB := mkHid hB
              have HIK := mkHid hik
              clear hR hB hik
              cases gk with
              | zero =>
                have hlt3 : ¬ ((j : Int) < (n : Int)) := by omega
                have e : j = n := by omega
                subst e
                have HE : Hid (rowI j k i P = rowS 13 k i j P) := mkHid (by unfold rowI; rw [if_neg (fun e => by have := HIK.out e; omega)])
                clear hD
                go_wp2
                go_roundg g2
                case measure => omega
                case rel => exact ⟨i + 1, by omega, by go_num, by rw [HP.out, HE.out]; exact HD.out, HR.out, HB.out⟩
              | succ g3 =>
                have hlt3 : (j : Int) < (n : Int) := by omega
                obtain ⟨H, hH⟩ : ∃ H, rowS 13 k i j P = H := ⟨_, rfl⟩
                have HH : Hid (rowS 13 k i (j + 1) P = relax 13 k i j H) := mkHid (by rw [← hH]; rfl)
                have HH0 := mkHid hH
                rw [hH] at HD hD
                clear hH
                obtain ⟨x1, hx1⟩ : ∃ x, H.getD (i * 13 + k) 0 = x := ⟨_, rfl⟩
                obtain ⟨x2, hx2⟩ : ∃ x, H.getD (k * 13 + j) 0 = x := ⟨_, rfl⟩
                obtain ⟨x3, hx3⟩ : ∃ x, H.getD (i * 13 + j) 0 = x := ⟨_, rfl⟩
                have c1 := hD.at (i := i) (j := k) (by omega) (by omega) hx1
                have c2 := hD.at (i := k) (j := j) (by omega) (by omega) hx2
                have c3 := hD.at (i := i) (j := j) (by omega) (by omega) hx3
                have f3 := hD.free (o := 1 + i * 13 + j) (by omega)
                have HR0 : Hid (relax 13 k i j H = if IntKind.i64.wrap (x1 + x2) < x3 then H.set (i * 13 + j) (IntKind.i64.wrap (x1 + x2)) else H) := mkHid (by unfold relax; rw [hx1, hx2, hx3])
                clear hx1 hx2 hx3 hD
                have a0 : (0 : Int) ≤ (i : Int) := by omega
                have a1 : (i : Int) < 13 := by omega
                have a2 : (0 : Int) ≤ (j : Int) := by omega
                have a3 : (j : Int) < 13 := by omega
                have a4 : (0 : Int) ≤ (k : Int) := by omega
                obtain ⟨y, hy⟩ : ∃ y, IntKind.i64.wrap (x1 + x2) = y := ⟨_, rfl⟩
                rw [hy] at HR0
                by_cases hik : i = k
                · have hik' : ((i : Int) == (k : Int)) = true := by rw [beq_iff_eq]; omega
                  have HIE := mkHid hik
                  clear hik
                  go_wp2
                  go_quiet (fail)
                  go_wp2
                  rw [Exit.noGoto_exit]
                  go_wp2
                  go_roundg g2
                  case measure => omega
                  case rel =>
                    have hj0 := HIK.out HIE.out
                    have e1 : H = P := by rw [← HH0.out, hj0]; rfl
                    exact ⟨i + 1, by omega, by go_num, by rw [HP.out]; unfold rowI; rw [if_pos HIE.out, ← e1]; exact HD.out.drewN _, HR.out.drewN _, below_drewN HB.out _⟩
                · have hik' : ((i : Int) == (k : Int)) = false := by rw [beq_eq_false_iff_ne]; omega
                  have HIE := mkHid hik
                  clear hik
                  by_cases hw : y < x3
                  · go_wp2
                    go_quiet (fail)
                    go_wp2
                    go_roundg g3
                    case measure => omega
                    case rel =>
                      refine ⟨j + 1, by omega, by go_num, fun e => absurd e HIE.out, ?_, ?_, ?_⟩
                      · rw [HH.out, HR0.out, if_pos (by omega)]; exact (HD.out.drewN _).put (by omega) (by omega) y
                      · exact (HR.out.drewN _).grown (grown_setCell _ _ _) (by simp)
                      · exact (below_drewN HB.out _).setCell (p := ⟨w.heap.size, 1 + i * 13 + j, none⟩) (Nat.le_refl _) _
                  · go_wp2
                    go_quiet (fail)
                    go_wp2
                    go_roundg g3
                    case measure => omega
                    case rel => exact ⟨j + 1, by omega, by go_num, fun e => absurd e HIE.out, by rw [HH.out, HR0.out, if_neg (by omega)]; exact HD.out.drewN _, HR.out.drewN _, below_drewN HB.out _⟩
end Go.Proofs.Ytgclngofigffdaa
