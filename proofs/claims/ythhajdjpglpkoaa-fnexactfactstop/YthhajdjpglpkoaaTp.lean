/-
  CONTRACT of the program's FactsTop.
-/
import Derived.Test.YthhajdjpglpkoaaFi
namespace Go.Proofs.Ythhajdjpglpkoaa
open Go.RowKit

def topO (z : Int) : Option Tab := if btw z 1 13 then some capT else none
theorem topO_fine (z : Int) : FineO z.toNat (topO z) := fun f e => by
  unfold topO at e
  split at e
  · rename_i h
    have h := of_decide_eq_true h
    cases e
    exact ⟨by omega, by omega, fun i j _ _ => ⟨by have := cap_le i j; omega, Int.le_refl _, fun e => if_pos e⟩⟩
  · cases e
def topP (u : Nat) : Tab := fun a b => if a < u ∨ b < u then capT a b else 0
theorem topP_zero (n : Nat) : grid n (topP 0) = zs := by
  apply List.ext_getElem?
  intro p
  by_cases hp : p < 169
  · have e : p / 13 * 13 + p % 13 = p := by omega
    have h4 := grid_at (n := n) (f := topP 0) (i := p / 13) (j := p % 13) (by omega) (by omega)
    rw [e] at h4
    rw [h4, zs, List.getElem?_replicate, if_pos hp]
    simp [topP]
  · rw [List.getElem?_eq_none (by rw [grid_len]; omega), List.getElem?_eq_none (by rw [zs_len]; omega)]
theorem topP_next {n : Nat} (hn : n ≤ 13) (u : Nat) : grid n (freeT u (topP u)) = grid n (topP (u + 1)) := grid_congr hn fun a b _ _ => by
  unfold freeT topP
  by_cases h : a = u ∨ b = u
  · rw [if_pos h, if_pos (by omega)]
  · rw [if_neg h]
    by_cases h2 : a < u ∨ b < u
    · rw [if_pos h2, if_pos (by omega)]
    · rw [if_neg h2, if_neg (by omega)]
theorem topP_all {n : Nat} (hn : n ≤ 13) : grid n (topP n) = grid n capT := grid_congr hn fun _ _ ha _ => if_pos (.inl ha)
set_option maxRecDepth 100000 in
set_option maxHeartbeats 1600000 in
theorem iTop_any (z : Int) (w : World) : Calls Try.prog 18 #[.int .i64 z] w fun e w' => Gives w w' e (outZ (topO z) z.toNat) (outL (topO z) z.toNat) := by
  have B0 := mkHid ((Below.refl w.heap.size w).alloc (Nat.le_refl _) (.cells #[.int .i64 0, .slice none 0 0] 24))
  have Z0 := mkHid (Fz.new w)
  cases hb : btw z 1 13
  · have e1 : Hid (topO z = none) := mkHid (by unfold topO; rw [hb]; rfl)
    obtain ⟨⟨z0, z1⟩, z2, z3⟩ := Z0.out
    go_enter Try.func18, Try.ntmps18
    go_wp2_with (first | (go_at_call 57; refine (isBetween_any _ _ _ _).mono ?_; rintro e w' ⟨rfl, rfl⟩))
    refine bodyPost_ret (v := .agg #[.int .i64 0, .slice none 0 0]) (by simp [results, Try.results18, go_sem]) rfl ?_
    rw [e1.out]
    exact ⟨none, 0, rfl, OwnI.nil _ _, B0.out⟩
  · have hz := of_decide_eq_true hb
    obtain ⟨n, rfl⟩ : ∃ n : Nat, z = n := ⟨z.toNat, by omega⟩
    have e1 : Hid (topO n = some capT) := mkHid (by unfold topO; rw [hb]; rfl)
    rw [show ((n : Int)).toNat = n from Int.toNat_natCast n]
    have h1 : 1 ≤ n := by omega
    have h2 : n ≤ 13 := by omega
    have HFR : Hid (∀ u v, u < n → Calls Try.prog 58 #[.agg (dA n (grid n (topP u))), .int .i64 u] v fun e w' => e = .returned (.agg (dA n (grid n (topP (u + 1))))) ∧ Below v.heap.size v w') := mkHid fun u v hu => by rw [← topP_next h2]; exact freed_some n (topP u) h2 u hu v
    have HFA : Hid (∀ v, Calls Try.prog 59 #[.agg (dA n (grid n (topP n)))] v fun e w' => Gives v w' e (outZ (topO n) n) (outL (topO n) n)) := mkHid fun v => by rw [topP_all h2, e1.out]; exact facts_yes n h1 h2 capT v
    have HZS := mkHid (topP_zero n)
    have HLEN : Hid (∀ u, (grid n (topP u)).length = 169) := mkHid fun u => grid_len _ _
    obtain ⟨P, hP⟩ : ∃ P : Nat → List Int, (fun u => grid n (topP u)) = P := ⟨_, rfl⟩
    have e0 : ∀ u, grid n (topP u) = P u := fun u => by rw [← hP]
    simp only [e0] at HFR HFA HZS HLEN
    obtain ⟨R, hR⟩ : ∃ R, topO n = R := ⟨_, rfl⟩
    rw [hR] at HFA
    rw [hR]
    clear hP e0 hR e1 hz
    have N1 : Hid (Dif ((w.alloc (.cells #[.int .i64 0, .slice none 0 0] 24)).alloc (.cells Try.zeroCells64 64)) (w.heap.size + 1) 0 zs) := mkHid (by have := Dif.newz (w.alloc (.cells #[.int .i64 0, .slice none 0 0] 24)); simpa using this)
    go_enter Try.func18, Try.ntmps18
    go_wp2_with (first | (go_at_call 57; refine (isBetween_any _ _ _ _).mono ?_; rintro e w' ⟨rfl, rfl⟩) | (refine wp_build64 rfl rfl rfl ?_) | (refine wp_store64 N1.out zs_len rfl rfl rfl rfl ?_; intro w2 hD2 hg2))
    have B2 := mkHid ((B0.out.alloc (by simp) (.cells Try.zeroCells64 64)).grown hg2 (by simp; omega) (fun q hq => by have e := Option.some.inj hq; omega))
    have Z2 := mkHid ((Z0.out.alloc (.cells Try.zeroCells64 64)).grown hg2 (some_ne (by omega)))
    have D2 : Hid (Dif w2 (w.heap.size + 1) n (P 0)) := mkHid (by rw [HZS.out]; exact hD2)
    clear hD2 hg2 N1 B0 Z0
    go_loopg [12] n (fun g s wr => ∃ (u : Nat), u + g = n ∧ s = .int .i64 u ∧ Dif wr (w.heap.size + 1) n (P u) ∧ Fz wr w.heap.size ∧ Below w.heap.size w wr)
    case atStart => exact ⟨0, by omega, rfl, D2.out, Z2.out, B2.out⟩
    case round =>
      obtain ⟨u, hug, rfl, hD, hZ, hB⟩ := hrel
      have HD := mkHid hD
      have HZ := mkHid hZ
      have HB := mkHid hB
      clear hD hZ hB D2 Z2 B2
      cases gk with
      | zero =>
        have hlt : ¬ ((u : Int) < (n : Int)) := by omega
        have e : u = n := by omega
        subst e
        go_wp2_with (first | (refine wp_load64 HD.out rfl rfl rfl ?_))
        refine (HFA.out _).mono ?_
        rintro e w9 ⟨ao, cap, rfl, ho, hb9⟩
        obtain ⟨⟨z0, z1⟩, z2, z3⟩ := HZ.out.below hb9
        have HE := mkHid (fun v0 v1 => Gives.shut (b := w.heap.size) HB.out (Nat.le_refl _) HZ.out.lt ho hb9 v0 v1)
        clear hb9 ho
        go_wp2
        exact bodyPost_ret (v := .agg #[.int .i64 (outZ R u), .slice ao (outL R u).length cap]) (by simp [results, Try.results18, go_sem, z0, z1]) rfl ⟨ao, cap, rfl, (HE.out _ _).1, (HE.out _ _).2⟩
      | succ g =>
        have hlt : (u : Int) < (n : Int) := by omega
        have HF2 := mkHid (fun v => HFR.out u v (by omega))
        go_wp2_with (first | (refine wp_load64 HD.out rfl rfl rfl ?_))
        refine (HF2.out _).mono ?_
        rintro e w3 ⟨rfl, hb3⟩
        have D3 := mkHid (HD.out.below hb3)
        have Z3 := mkHid (HZ.out.below hb3)
        have B3 := mkHid (below_step HB.out hb3)
        clear hb3
        go_wp2_with (first | (refine wp_store64 D3.out (HLEN.out (u + 1)) rfl rfl rfl rfl ?_; intro w4 hD4 hg4))
        have D4 := mkHid hD4
        have Z4 := mkHid (Z3.out.grown hg4 (some_ne (by omega)))
        have B4 := mkHid (B3.out.grown hg4 B3.out.size (fun q hq => by have e := Option.some.inj hq; omega))
        clear hD4 hg4
        go_roundg g
        case measure => omega
        case rel => exact ⟨u + 1, by omega, by go_num, D4.out, Z4.out, B4.out⟩
end Go.Proofs.Ythhajdjpglpkoaa
