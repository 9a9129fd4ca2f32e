/-
  CONTRACT of the law's own vals.
  CONTRACT of the program's FactsTop.
  CONTRACT of the specification's FactsForget.
  CONTRACT of the specification's FactsTop.
-/
import Derived.Test.YtgclngofigffdaaFo09
import Derived.Test.YtgclngofigffdaaFo08
namespace Go.Proofs.Ytgclngofigffdaa
open Go.RowKit

end Go.Proofs.Ytgclngofigffdaa
namespace Go.Proofs.Ytgclngofigffdaa
open Go.RowKit

def topO (z : Int) : Option Tab := if btw z 1 13 then some capT else none
end Go.Proofs.Ytgclngofigffdaa
namespace Go.Proofs.Ytgclngofigffdaa
open Go.RowKit

theorem Fc.drew {w : World} {b : Nat} {z : Int} {a : Option Addr} {n c : Nat} (h : Fc w b z a n c) : Fc w.drew b z a n c := h.below (Below.refl _ _).drew
theorem Fz.drew {w : World} {b : Nat} (h : Fz w b) : Fz w.drew b := h.below (Below.refl _ _).drew
theorem OwnI.drew {w : World} {base : Nat} {v : Value} {l : List Int} (h : OwnI w base v l) : OwnI w.drew base v l := h.below (Below.refl _ _).drew
theorem Gives.shut2 {w w5 : World} {b base : Nat} {ao : Option Addr} {cap : Nat} {l : List Int} (hbel : Below w.heap.size w w5) (hb : w.heap.size ≤ b) (h : OwnI w5 base (.slice ao l.length cap) l) (h5 : b < base) (v0 v1 : Value) :
    OwnI ((w5.setCell ⟨b, 0, none⟩ v0).setCell ⟨b, 1, none⟩ v1) w.heap.size (.slice ao l.length cap) l ∧ Below w.heap.size w ((w5.setCell ⟨b, 0, none⟩ v0).setCell ⟨b, 1, none⟩ v1) := by
  have hlo : ∀ q, Value.ownBlock (.slice ao l.length cap) = some q → some b ≠ some q := fun q hq => some_ne (by have := h.lt hq; omega)
  exact ⟨((h.mono (by omega)).grown (grown_setCell _ ⟨b, 0, none⟩ _) hlo).grown (grown_setCell _ ⟨b, 1, none⟩ _) hlo, (hbel.setCell (p := ⟨b, 0, none⟩) hb _).setCell (p := ⟨b, 1, none⟩) hb _⟩
end Go.Proofs.Ytgclngofigffdaa
namespace Go.Proofs.Ytgclngofigffdaa
open Go.RowKit

def topL (n i j : Nat) : List Int := mkR n i capT ++ rowL j i capT
theorem topL_len (n i j : Nat) : (topL n i j).length = i * n + j := by rw [topL, List.length_append, mkR_len, rowL_len]
theorem topL_next (n i j : Nat) : topL n i (j + 1) = topL n i j ++ [capT i j] := by
  unfold topL
  rw [List.append_assoc]
  congr 1
  unfold rowL
  rw [List.range_succ, List.map_append]; rfl
theorem topL_row (n i : Nat) : topL n i n = topL n (i + 1) 0 := by
  unfold topL
  rw [mkR_next]
  simp [rowL]
theorem topL_all (n : Nat) : topL n n 0 = mk n capT := by
  unfold topL
  simp [rowL]
  rfl
/-- Facts that are being made. -/
def Fw (w : World) (b : Nat) (z : Int) (a : Option Addr) (n c : Nat) : Prop := Fc w b z a n c ∧ w.frozen? ⟨b, 1, none⟩ = false
theorem Fw.below {w w' : World} {b : Nat} {z : Int} {a : Option Addr} {n c : Nat} (h : Fw w b z a n c) (hb : Below w.heap.size w w') : Fw w' b z a n c := ⟨h.1.below hb, (hb.frozen (p := ⟨b, 1, none⟩) h.1.lt).trans h.2⟩
theorem Fw.grown {w w' : World} {b : Nat} {z : Int} {a : Option Addr} {n c : Nat} {row : Option Nat} (h : Fw w b z a n c) (hg : w.grownBy w' row) (hr : some b ≠ row) : Fw w' b z a n c := ⟨h.1.grown hg hr, (hg.frozen_far ⟨b, 1, none⟩ h.1.lt hr).trans h.2⟩
theorem Fw.put {w : World} {b : Nat} {z : Int} {a a' : Option Addr} {n c n' c' : Nat} (h : Fw w b z a n c) : Fw (w.setCell ⟨b, 1, none⟩ (.slice a' n' c')) b z a' n' c' := by
  refine ⟨⟨?_, ?_⟩, ?_⟩
  · rw [World.cell?_setCell_other _ _ _ _ (by simp)]; exact h.1.1
  · rw [World.cell?_setCell_same _ _ _ h.1.2]
  · rw [World.frozen?_setCell]; exact h.2
theorem Fw.drew {w : World} {b : Nat} {z : Int} {a : Option Addr} {n c : Nat} (h : Fw w b z a n c) : Fw w.drew b z a n c := h.below (Below.refl _ _).drew
theorem Fw.new (w : World) (z : Int) (a : Option Addr) (n c : Nat) (T : TypeId) : Fw (w.alloc (.cells #[.int .i64 z, .slice a n c] T)) w.heap.size z a n c := ⟨Fc.new w z a n c T, by simp [go_sem]⟩
set_option maxRecDepth 100000 in
set_option maxHeartbeats 3200000 in
theorem sTop_any (z : Int) (w : World) : Calls Try.prog 81 #[.int .i64 z] w fun e w' => Gives w w' e (outZ (topO z) z.toNat) (outL (topO z) z.toNat) := by
  have B0 := mkHid ((Below.refl w.heap.size w).alloc (Nat.le_refl _) (.cells #[.int .i64 0, .slice none 0 0] 26))
  have Z0 := mkHid (Fz.new w)
  cases hb : btw z 1 13
  · have e1 : Hid (topO z = none) := mkHid (by unfold topO; rw [hb]; rfl)
    go_enter Try.func81, Try.ntmps81
    go_wp2_with (first | (go_at_call 58; refine (between_any _ _ _ _).mono ?_; rintro e w' ⟨rfl, rfl⟩))
    refine bodyPost_ret (v := .agg #[.int .i64 0, .slice none 0 0]) (by simp [results, Try.results81, go_sem]) rfl ?_
    rw [e1.out]
    exact ⟨none, 0, rfl, OwnI.nil _ _, B0.out⟩
  · have hz := of_decide_eq_true hb
    obtain ⟨n, rfl⟩ : ∃ n : Nat, z = n := ⟨z.toNat, by omega⟩
    have e1 : Hid (topO n = some capT) := mkHid (by unfold topO; rw [hb]; rfl)
    rw [show ((n : Int)).toNat = n from Int.toNat_natCast n]
    have h1 : 1 ≤ n := by omega
    have h2 : n ≤ 13 := by omega
    obtain ⟨i0, hi, hzz⟩ := Option.map_eq_some_iff.1 Try.info3
    simp only [Prod.mk.injEq] at hzz
    obtain ⟨hz0, hz1, hz2⟩ := hzz
    have HI := mkHid (show Try.prog.info? 3 = some i0 ∧ i0.zero = some (.int .i64 0) ∧ i0.size = 1 ∧ i0.bytes = 8 from ⟨hi, hz0, hz1, hz2⟩)
    have HLB : Hid (∀ i j, i < n → j ≤ n → (topL n i j).length ≤ 169) := mkHid fun i j hi hj => by
      rw [topL_len]
      have := sq_le h2
      have : (i + 1) * n ≤ n * n := Nat.mul_le_mul_right n hi
      rw [Nat.add_mul] at this
      omega
    have B1 := mkHid (B0.out.alloc (by simp) (.cells #[.int .i64 n, .slice none 0 0] 26))
    have Z1 := mkHid (Z0.out.alloc (.cells #[.int .i64 n, .slice none 0 0] 26))
    have F1 : Hid (Fw ((w.alloc (.cells #[.int .i64 0, .slice none 0 0] 26)).alloc (.cells #[.int .i64 n, .slice none 0 0] 26)) (w.heap.size + 1) n none 0 0) := mkHid (by have := Fw.new (w.alloc (.cells #[.int .i64 0, .slice none 0 0] 26)) n none 0 0 26; simpa using this)
    have HT0 : Hid (topL n 0 0 = []) := mkHid (by simp [topL, mkR, rowL])
    have HTN : Hid (topL n n 0 = mk n capT) := mkHid (topL_all n)
    have HTR : Hid (∀ i, topL n i n = topL n (i + 1) 0) := mkHid (topL_row n)
    have HTX : Hid (∀ i j, topL n i (j + 1) = topL n i j ++ [capT i j]) := mkHid (topL_next n)
    obtain ⟨T, hT⟩ : ∃ T : Nat → Nat → List Int, topL n = T := ⟨_, rfl⟩
    rw [hT] at HLB HT0 HTN HTR HTX
    clear hi hz0 hz1 hz2 hz hT
    go_enter Try.func81, Try.ntmps81
    go_wp2_with (first | (go_at_call 58; refine (between_any _ _ _ _).mono ?_; rintro e w' ⟨rfl, rfl⟩))
    go_loopg [4] n (fun g s wr => ∃ (i : Nat) (ao : Option Addr) (cap : Nat), i + g = n ∧ s = .int .i64 i ∧ OwnI wr (w.heap.size + 2) (.slice ao (T i 0).length cap) (T i 0) ∧ Fw wr (w.heap.size + 1) n ao (T i 0).length cap ∧ Fz wr w.heap.size ∧ Below w.heap.size w wr)
    case atStart => exact ⟨0, none, 0, by omega, rfl, by rw [HT0.out]; exact OwnI.nil _ _, by rw [HT0.out]; exact F1.out, Z1.out, B1.out⟩
    case round =>
      obtain ⟨i, ao, cap, hig, rfl, hO, hF, hZ, hB⟩ := hrel
      have HO := mkHid hO
      have HF := mkHid hF
      have HZ := mkHid hZ
      have HB := mkHid hB
      clear hO hB F1 Z1 B1 Z0 B0
      cases gk with
      | zero =>
        have hlt : ¬ ((i : Int) < (n : Int)) := by omega
        have e : i = n := by omega
        subst e
        rw [HTN.out] at HO HF
        obtain ⟨⟨z0, z1⟩, z2, z3⟩ := hZ
        obtain ⟨⟨f0, f1⟩, -⟩ := HF.out
        clear hF
        have HE := mkHid (fun v0 v1 => Gives.shut2 (b := w.heap.size) HB.out (Nat.le_refl _) HO.out (by omega) v0 v1)
        go_wp2
        refine bodyPost_ret (v := .agg #[.int .i64 i, .slice ao (mk i capT).length cap]) (by simp [results, Try.results81, go_sem, z0, z1]) rfl ?_
        rw [e1.out]
        exact ⟨ao, cap, rfl, (HE.out _ _).1, (HE.out _ _).2⟩
      | succ gi =>
        have hlt : (i : Int) < (n : Int) := by omega
        clear hF hZ
        go_wp2_with fail
        go_loopg [5] n (fun g s wy => ∃ (j : Nat) (ao : Option Addr) (cap : Nat), j + g = n ∧ s = .int .i64 j ∧ OwnI wy (w.heap.size + 2) (.slice ao (T i j).length cap) (T i j) ∧ Fw wy (w.heap.size + 1) n ao (T i j).length cap ∧ Fz wy w.heap.size ∧ Below w.heap.size w wy)
        case atStart => exact ⟨0, ao, cap, by omega, rfl, HO.out, HF.out, HZ.out, HB.out⟩
        case round =>
          clear HO HF HZ HB
          obtain ⟨j, ao, cap, hjg, rfl, hO, hF, hZ, hB⟩ := hrel
          have HO := mkHid hO
          have HF := mkHid hF
          have HZ := mkHid hZ
          have HB := mkHid hB
          clear hO hZ hB
          cases gk with
          | zero =>
            have hlt2 : ¬ ((j : Int) < (n : Int)) := by omega
            have e : j = n := by omega
            subst e
            rw [HTR.out] at HO HF
            clear hF
            go_wp2
            go_roundg gi
            case measure => omega
            case rel => exact ⟨i + 1, ao, cap, by omega, by go_num, HO.out, HF.out, HZ.out, HB.out⟩
          | succ gj =>
            have hlt2 : (j : Int) < (n : Int) := by omega
            obtain ⟨L, hL⟩ : ∃ L, T i j = L := ⟨_, rfl⟩
            have HX : Hid (T i (j + 1) = L ++ [capT i j]) := mkHid (by rw [HTX.out, hL])
            have hLl : L.length ≤ 169 := by rw [← hL]; exact HLB.out i j (by omega) (by omega)
            rw [hL] at HO HF hF
            obtain ⟨⟨f0, f1⟩, f2⟩ := hF
            have s0 := HZ.out.lt
            have s1 := HF.out.1.lt
            clear hL
            go_wp2_with fail
            go_region_law (first | (go_simp; go_at_call 57; refine (sCap_any _ _ _).mono ?_; rintro e w3 ⟨rfl, rfl⟩; have OW := mkHid (World.ownsRow.alloc (OwnI.drew HO.out) (.cells #[.int .i64 (capT i j)] 3))) | (refine step_append_lies _ (by rfl) _ _ _ (by rfl) (w.heap.size + 2) 3 i0 (.int .i64 0) 1 8 Try.underlying24 HI.out.1 HI.out.2.1 HI.out.2.2.1 HI.out.2.2.2 rfl (by decide) _ _ _ (by rfl) OW.out ⟨wr.heap.size, 0, none⟩ 1 1 [.int .i64 (capT i j)] (by rfl) (by rfl) (World.news_of_block (heap_alloc_last wr.drew _)) (fun u hu => by simp at hu; rcases hu with rfl; rfl) (by decide) (by unfold maxLen; omega) (by omega) (by simp; omega) (wr.heap.size + 1) (by simp) ?_; intro g' cap' w4 hown hgrow hat hlt4; have F4 := ((HF.out.drew).below ((Below.refl _ _).alloc (Nat.le_refl _) (.cells #[.int .i64 (capT i j)] 3))).grown hgrow (fun e => by have := HO.out.lt e.symm; omega); obtain ⟨⟨k0, k1⟩, k2⟩ := F4))
            all_goals
              have hlen : (T i (j + 1)).length = L.length + 1 := by rw [HX.out]; simp
              have O4 : OwnI w4 (w.heap.size + 2) (.slice (some ⟨g', 0, none⟩) (L.length + 1) cap') (T i (j + 1)) := by
                unfold OwnI
                rw [hlen, HX.out, ← ints_snoc]
                exact hown
              have hg4 := O4.base_le
              have hof : ∀ b, b < w.heap.size + 2 → some b ≠ Value.ownBlock (.slice ao L.length cap) := fun b hb e => by have := HO.out.lt e.symm; omega
              have Z4 := ((HZ.out.drew).alloc (.cells #[.int .i64 (capT i j)] 3)).grown hgrow (hof _ (by omega))
              have B4 := (HB.out.drew.alloc HB.out.size (.cells #[.int .i64 (capT i j)] 3)).grown hgrow (by have := HB.out.size; simp; omega) (fun q hq => by have := HO.out.lt hq; omega)
              have O5 := mkHid (O4.grown (grown_setCell w4 ⟨w.heap.size + 1, 1, none⟩ (.slice (some ⟨g', 0, none⟩) (L.length + 1) cap')) (fun q hq => some_ne (by have e : g' = q := Option.some.inj hq; show w.heap.size + 1 ≠ q; omega)))
              have F5 := mkHid (Fw.put (a' := some ⟨g', 0, none⟩) (n' := L.length + 1) (c' := cap') (show Fw w4 (w.heap.size + 1) n ao L.length cap from ⟨⟨k0, k1⟩, k2⟩))
              have Z5 := mkHid (Z4.grown (grown_setCell w4 ⟨w.heap.size + 1, 1, none⟩ (.slice (some ⟨g', 0, none⟩) (L.length + 1) cap')) (some_ne (by show w.heap.size ≠ w.heap.size + 1; omega)))
              have B5 := mkHid (B4.setCell (p := ⟨w.heap.size + 1, 1, none⟩) (Nat.le_succ _) (.slice (some ⟨g', 0, none⟩) (L.length + 1) cap'))
              obtain ⟨w5, hw5⟩ : ∃ w5, w4.setCell ⟨w.heap.size + 1, 1, none⟩ (.slice (some ⟨g', 0, none⟩) (L.length + 1) cap') = w5 := ⟨_, rfl⟩
              rw [hw5] at O5 F5 Z5 B5
              rw [hw5]
              have HLN := mkHid hlen
              clear hw5 hown hgrow hat hlt4 k0 k1 k2 OW O4 hg4 hof Z4 B4 f0 f1 f2 hlen
              go_wp2
              go_roundg gj
              case measure => omega
              case rel => exact ⟨j + 1, some ⟨g', 0, none⟩, cap', by omega, by go_num, by rw [HLN.out]; exact O5.out, by rw [HLN.out]; exact F5.out, Z5.out, B5.out⟩
end Go.Proofs.Ytgclngofigffdaa
