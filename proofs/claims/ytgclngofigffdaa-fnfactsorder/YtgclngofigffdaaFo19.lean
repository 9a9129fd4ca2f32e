/-
  PURE: facts are ordered by what is so of them.
  CONTRACTS of l07Draw and DrawSymMost.
-/
import Derived.Test.YtgclngofigffdaaFo16
import Derived.Test.YtgclngofigffdaaFo18
import Derived.Test.YtgclngofigffdaaFo15
namespace Go.Proofs.Ytgclngofigffdaa
open Go.RowKit

theorem out_ok2 {n : Nat} {o : Option Tab} {f : Tab} (ho : FineO n o) (e : o = some f) : okF (outZ o n) (outL o n) = true := by
  subst e
  obtain ⟨h1, h2, h3⟩ := ho f rfl
  exact ok_mk h1 h2 h3
theorem go_out {n : Nat} {l : List Int} {o : Option Tab} (h : okF n l = true) (ho : FineO n o) : goB n l (outZ o n) (outL o n) = true := by
  cases o with
  | none => show goB n l 0 [] = true; unfold goB; rw [ok_no h, show noF 0 [] = true from rfl]; simpa using h
  | some f => exact go_yes h (out_ok2 ho rfl)
theorem go_out2 {n : Nat} {l : List Int} {o : Option Tab} (h : okF n l = true) (ho : FineO n o) : goB (outZ o n) (outL o n) n l = true := by
  cases o with
  | none => show goB 0 [] n l = true; unfold goB; rw [show noF 0 [] = true from rfl, h]; simp
  | some f => exact go_yes (out_ok2 ho rfl) h
theorem leq_up {n : Nat} {l : List Int} {o : Option Tab} (h : okF n l = true) (ho : FineO n o) (hh : ∀ f, cF n l = some f → ∃ g, o = some g ∧ ∀ a b, a < n → b < n → f a b ≤ g a b) : leqF n l (outZ o n) (outL o n) = true := by
  have hg := go_out h ho
  cases h1 : cF n l with
  | none => exact leqF_one hg h1
  | some f =>
    obtain ⟨g, rfl, hle⟩ := hh f h1
    rw [leqF_both hg h1 (ok_no (out_ok2 ho rfl)), Int.toNat_natCast]
    unfold leL
    rw [List.all_eq_true]
    intro p hp
    have hp := List.mem_range.1 hp
    refine decide_eq_true ?_
    show _ ≤ (mk n g).getD p 0
    rw [mk_getD hp, mk_getD hp]
    have : 0 < n := Nat.pos_of_ne_zero fun e => by subst e; simp at hp
    exact hle _ _ (Nat.div_lt_of_lt_mul hp) (Nat.mod_lt _ this)
theorem leq_low {n : Nat} {l : List Int} {o : Option Tab} (h : okF n l = true) (ho : FineO n o) (hh : ∀ f, o = some f → ∀ a b, a < n → b < n → f a b ≤ tab n l a b) : leqF (outZ o n) (outL o n) n l = true := by
  have hg := go_out2 h ho
  cases o with
  | none => exact leqF_one hg rfl
  | some f =>
    have hk := out_ok2 ho rfl
    have hk' : okF (n : Int) (mk n f) = true := hk
    cases h1 : cF (outZ (some f) n) (outL (some f) n) with
    | none => exact leqF_one hg h1
    | some g =>
      rw [leqF_both hg h1 (ok_no h)]
      have h1' : cF (n : Int) (mk n f) = some g := h1
      rw [cF_n hk'] at h1'
      unfold cloO at h1'
      split at h1'
      · cases h1'
        unfold leL
        rw [List.all_eq_true]
        show ∀ p, p ∈ List.range (n * n) → _
        intro p hp
        have hp := List.mem_range.1 hp
        refine decide_eq_true ?_
        show (mk n _).getD p 0 ≤ _
        rw [mk_getD hp]
        have h0 : 0 < n := Nat.pos_of_ne_zero fun e => by subst e; simp at hp
        have q1 := Nat.div_lt_of_lt_mul hp
        have q2 := Nat.mod_lt p h0
        refine Int.le_trans (clo_le n _ _ _) ?_
        rw [show tab n (mk n f) (p / n) (p % n) = f (p / n) (p % n) from mk_V n f _ _ q1 q2]
        refine Int.le_trans (hh f rfl _ _ q1 q2) ?_
        show l.getD (p / n * n + p % n) 0 ≤ _
        rw [Nat.div_add_mod' p n]
        exact Int.le_refl _
      · cases h1'
theorem cF_finen (n : Nat) (l : List Int) : FineO n (cF n l) := by have := cF_fine n l; rwa [Int.toNat_natCast] at this
/-- The join, as a table or none. -/
def joT (n : Nat) (l l' : List Int) : Option Tab := match cF n l, cF n l' with
  | none, o => o
  | some f, none => some f
  | some f, some g => some fun a b => max (f a b) (g a b)
theorem joT_fine (n : Nat) (l l' : List Int) : FineO n (joT n l l') := by
  unfold joT
  have f1 := cF_finen n l
  have f2 := cF_finen n l'
  cases h1 : cF n l with
  | none => exact f2
  | some f =>
    rw [h1] at f1
    cases h2 : cF n l' with
    | none => exact f1
    | some g =>
      rw [h2] at f2
      intro k e
      cases e
      obtain ⟨k1, k2, k3⟩ := f1 f rfl
      obtain ⟨_, _, k4⟩ := f2 g rfl
      exact ⟨k1, k2, fine_max k3 k4⟩
theorem joT_eq {n : Nat} {l l' : List Int} (h : okF n l = true) (h' : okF n l' = true) : joinR n l n l' = (outZ (joT n l l') n, outL (joT n l l') n) := by
  have hg := go_yes h h'
  unfold joT
  cases h1 : cF n l with
  | none => rw [joinR_one hg h1, Int.toNat_natCast]
  | some f =>
    cases h2 : cF n l' with
    | none => rw [joinR_other hg h1 h2, Int.toNat_natCast]; rfl
    | some g => rw [joinR_both hg h1 h2, Int.toNat_natCast]; rfl
theorem join_up {n : Nat} {l l' : List Int} (h : okF n l = true) (h' : okF n l' = true) : leqF n l (joinR n l n l').1 (joinR n l n l').2 = true := by
  rw [joT_eq h h']
  refine leq_up h (joT_fine n l l') fun f e => ?_
  unfold joT
  rw [e]
  cases cF n l' with
  | none => exact ⟨f, rfl, fun a b _ _ => Int.le_refl _⟩
  | some g => exact ⟨_, rfl, fun a b _ _ => Int.le_max_left _ _⟩
theorem join_up2 {n : Nat} {l l' : List Int} (h : okF n l = true) (h' : okF n l' = true) : leqF n l' (joinR n l n l').1 (joinR n l n l').2 = true := by
  rw [joT_eq h h']
  refine leq_up h' (joT_fine n l l') fun f e => ?_
  unfold joT
  rw [e]
  cases cF n l with
  | none => exact ⟨f, rfl, fun a b _ _ => Int.le_refl _⟩
  | some g => exact ⟨_, rfl, fun a b _ _ => Int.le_max_right _ _⟩
theorem metF_n {n : Nat} {l l' : List Int} (h : okF n l = true) (h' : okF n l' = true) : metF n l n l' = cloO n (fun a b => min (tab n l a b) (tab n l' a b)) := by unfold metF; rw [h, h']; simp
theorem meet_down {n : Nat} {l l' : List Int} (h : okF n l = true) (h' : okF n l' = true) (hf : FineO n (metF n l n l')) : leqF (outZ (metF n l n l') n) (outL (metF n l n l') n) n l = true ∧ leqF (outZ (metF n l n l') n) (outL (metF n l n l') n) n l' = true := by
  have key : ∀ f, metF n l n l' = some f → ∀ a b, f a b ≤ min (tab n l a b) (tab n l' a b) := fun f e a b => by
    rw [metF_n h h'] at e
    unfold cloO at e
    split at e
    · cases e; exact clo_le n _ a b
    · cases e
  exact ⟨leq_low h hf fun f e a b _ _ => Int.le_trans (key f e a b) (Int.min_le_left _ _), leq_low h' hf fun f e a b _ _ => Int.le_trans (key f e a b) (Int.min_le_right _ _)⟩
theorem wid_up {n : Nat} {l l' st : List Int} (h : okF n l = true) (h' : okF n l' = true) (hs : 0 < (widR n l n l' st).2.length) : leqF n l (widR n l n l' st).1 (widR n l n l' st).2 = true ∧ leqF n l' (widR n l n l' st).1 (widR n l n l' st).2 = true := by
  have hg := go_yes h h'
  cases hst : stepsB st
  · rw [widR_no (by rw [hg, hst]; rfl)] at hs; simp at hs
  have f2 := cF_finen n l'
  obtain ⟨m, e, k1, k2, _, k4, k3⟩ := ok_of h
  have e : n = m := by omega
  subst e
  have c1 : ∀ f, cF n l = some f → ∀ a b, f a b ≤ tab n l a b := fun f e a b => by
    rw [cF_n h] at e
    unfold cloO at e
    split at e
    · cases e; exact clo_le n _ a b
    · cases e
  cases h2 : cF n l' with
  | none =>
    rw [widR_other hg hst (ok_no h) h2]
    have fo : FineO n (some (tab n l)) := fun f e => by cases e; exact ⟨k1, k2, k3⟩
    have e2 : outL (some (tab n l)) n = l := k4.symm
    have := leq_up h fo fun f e => ⟨_, rfl, fun a b _ _ => c1 f e a b⟩
    rw [e2] at this
    have t2 := leq_up h' fo fun f e => by rw [h2] at e; cases e
    rw [e2] at t2
    exact ⟨this, t2⟩
  | some g =>
    obtain ⟨_, _, k5⟩ := f2 g h2
    rw [widR_both hg hst (ok_no h) h2, Int.toNat_natCast]
    have key : ∀ a b, a < n → b < n → tab n l a b ≤ widT (tab n l) g st a b ∧ g a b ≤ widT (tab n l) g st a b ∧ widT (tab n l) g st a b ≤ capT a b ∧ (a = b → widT (tab n l) g st a b = 0) := fun a b ha hb => by
      have q1 := k3 a b ha hb
      have q2 := k5 a b ha hb
      unfold widT
      split
      · have := stepM_mem (g a b) st (capT a b) q2.2.1
        exact ⟨by omega, by omega, by omega, fun e => by have := q1.2.2 e; have := q2.2.2 e; omega⟩
      · exact ⟨by omega, by omega, by omega, q1.2.2⟩
    have fo : FineO n (some (widT (tab n l) g st)) := fun _ e => by
      cases e
      exact ⟨k1, k2, fun a b ha hb => ⟨by have := k3 a b ha hb; have := key a b ha hb; omega, (key a b ha hb).2.2.1, (key a b ha hb).2.2.2⟩⟩
    refine ⟨leq_up h fo fun f e => ⟨_, rfl, fun a b ha hb => Int.le_trans (c1 f e a b) (key a b ha hb).1⟩, leq_up h' fo fun f e => ⟨_, rfl, fun a b ha hb => ?_⟩⟩
    rw [h2] at e
    cases e
    exact (key a b ha hb).2.1
theorem clo_again {n : Nat} {f : Tab} (h : Closed n f) (hf : FineO n (some f)) : outZ (cF n (mk n f)) n = n ∧ outL (cF n (mk n f)) n = mk n f := by
  obtain ⟨h1, h2, h3⟩ := hf f rfl
  rw [cF_n (ok_mk h1 h2 h3)]
  have hv : ∀ a b, a < n → b < n → tab n (mk n f) a b = f a b := fun a b ha hb => mk_V n f a b ha hb
  have hc : Closed n (tab n (mk n f)) := ⟨fun i hi => by rw [hv i i hi hi]; exact h.1 i hi, fun a b c ha hb hc => by rw [hv a b ha hb, hv a c ha hc, hv c b hc hb]; exact h.2 a b c ha hb hc⟩
  obtain ⟨q1, q2⟩ := closed_clo hc
  unfold cloO
  rw [if_pos q1]
  exact ⟨rfl, mk_congr fun a b ha hb => (q2 a b ha hb).trans (hv a b ha hb)⟩
theorem close_again {n : Nat} {l : List Int} (hs : 0 < (outL (cF n l) n).length) : outZ (cF (outZ (cF n l) n) (outL (cF n l) n)) (outZ (cF n l) n).toNat = outZ (cF n l) n ∧ outL (cF (outZ (cF n l) n) (outL (cF n l) n)) (outZ (cF n l) n).toNat = outL (cF n l) n := by
  have hf := cF_finen n l
  cases h : cF n l with
  | none => rw [h] at hs; simp [outL] at hs
  | some f =>
    have hc := cF_closed h
    rw [Int.toNat_natCast] at hc
    rw [h] at hf
    exact clo_again hc hf
theorem fwN_up {n : Nat} {f g : Tab} (h : ∀ i j, i < n → j < n → f i j ≤ g i j) : ∀ k, k ≤ n → ∀ i j, i < n → j < n → fwN f k i j ≤ fwN g k i j
  | 0, _, i, j, hi, hj => h i j hi hj
  | k + 1, hk, i, j, hi, hj => by
    have q1 := fwN_up h k (by omega) i j hi hj
    have q2 := fwN_up h k (by omega) i k hi (by omega)
    have q3 := fwN_up h k (by omega) k j (by omega) hj
    show min (fwN f k i j) (fwN f k i k + fwN f k k j) ≤ min (fwN g k i j) (fwN g k i k + fwN g k k j)
    omega
theorem clo_above {n : Nat} {f g : Tab} (hc : Closed n f) (h : ∀ i j, i < n → j < n → f i j ≤ g i j) : cloB n g = true ∧ ∀ i j, i < n → j < n → f i j ≤ clo n g i j := by
  have key : ∀ i j, i < n → j < n → f i j ≤ fwN g n i j := fun i j hi hj => by
    have := fwN_up h n (Nat.le_refl _) i j hi hj
    rw [closed_fw hc n (Nat.le_refl _) i j hi hj] at this
    exact this
  exact ⟨clo_iff.2 fun i hi => by have := key i i hi hi; rw [hc.1 i hi] at this; exact this, key⟩
theorem leq_tab {n : Nat} {l l' : List Int} {f : Tab} (h : okF n l = true) (h' : okF n l' = true) (hl : leqF n l n l' = true) (e : cF n l = some f) : ∃ g, cF n l' = some g ∧ ∀ a b, a < n → b < n → f a b ≤ g a b := by
  rw [leqF_both (go_yes h h') e (ok_no h'), Int.toNat_natCast] at hl
  have hc := cF_closed e
  rw [Int.toNat_natCast] at hc
  have hle : ∀ a b, a < n → b < n → f a b ≤ tab n l' a b := fun a b ha hb => by
    unfold leL at hl
    have := of_decide_eq_true (List.all_eq_true.1 hl (a * n + b) (List.mem_range.2 (idx_lt ha hb)))
    rw [show (mk n f).getD (a * n + b) 0 = f a b from mk_V n f a b ha hb] at this
    exact this
  obtain ⟨q1, q2⟩ := clo_above hc hle
  refine ⟨clo n (tab n l'), ?_, q2⟩
  rw [cF_n h']
  unfold cloO
  rw [if_pos q1]
theorem leq_both {n : Nat} {l l' : List Int} (h : okF n l = true) (h' : okF n l' = true) (h1 : leqF n l n l' = true) (h2 : leqF n l' n l = true) : outZ (cF n l) n = outZ (cF n l') n ∧ outL (cF n l) n = outL (cF n l') n := by
  cases e1 : cF n l with
  | none =>
    cases e2 : cF n l' with
    | none => exact ⟨rfl, rfl⟩
    | some g => obtain ⟨f, e, _⟩ := leq_tab h' h h2 e2; rw [e1] at e; cases e
  | some f =>
    obtain ⟨g, e, q1⟩ := leq_tab h h' h1 e1
    obtain ⟨f', e', q2⟩ := leq_tab h' h h2 e
    rw [e1] at e'
    cases e'
    rw [e]
    exact ⟨rfl, mk_congr fun a b ha hb => Int.le_antisymm (q1 a b ha hb) (q2 a b ha hb)⟩
end Go.Proofs.Ytgclngofigffdaa
namespace Go.Proofs.Ytgclngofigffdaa
open Go.RowKit

set_option maxRecDepth 100000 in
set_option maxHeartbeats 1600000 in
theorem draw_any (cb n cap bud : Nat) (a : Option Addr) (w : World) (hC : Cur w cb a n cap (bud + 210)) :
    Calls Try.prog 63 #[.pointer (some ⟨cb, 0, none⟩)] w fun e w' => ∃ (z : Int) (l : List Int) (ao : Option Addr) (cp : Nat), e = .returned (.agg #[.int .i64 z, .slice ao l.length cp]) ∧ z ≤ 20 ∧ l.length ≤ 169 ∧ l.length ≤ cp ∧ OwnI w' w.heap.size (.slice ao l.length cp) l ∧ Cur w' cb a n cap bud ∧ w.grownBy w' (some cb) := by
  have hlt := hC.lt
  have C0 := mkHid ((hC.alloc (.cells #[.int .i64 0, .slice none 0 0] 26)).less (bud' := bud + 201 + 1) (by omega))
  have G0 := mkHid (World.grownBy_alloc w (.cells #[.int .i64 0, .slice none 0 0] 26) (some cb))
  have Z0 := mkHid (Fz.new w)
  have HDS : Hid (∀ (sz : Nat) (v : World), 1 ≤ sz → sz ≤ 13 → Cur v cb a n cap (bud + 200) → Calls Try.prog 73 #[.pointer (some ⟨cb, 0, none⟩), .int .i64 sz] v fun e w' => ∃ (z : Int) (l : List Int) (ao : Option Addr) (cp : Nat), e = .returned (.agg #[.int .i64 z, .slice ao l.length cp]) ∧ z ≤ 20 ∧ l.length ≤ 169 ∧ l.length ≤ cp ∧ OwnI w' v.heap.size (.slice ao l.length cp) l ∧ Cur w' cb a n cap bud ∧ v.grownBy w' (some cb)) := mkHid fun sz v h1 h2 h => drawSize_any sz cb n cap bud a v h1 h2 h
  clear hC
  go_enter Try.func63, Try.ntmps63
  go_wp2_with fail
  refine (pick_any 6 cb n cap (bud + 201) a _ (by omega) C0.out).mono ?_
  rintro e w1 ⟨r, rfl, ra, rb, hC, hG⟩
  have C1 := mkHid hC
  have G1 := mkHid (grown_trans G0.out hG)
  have Z1 := mkHid (Z0.out.grown hG (some_ne (by omega)))
  clear hC hG C0 G0 Z0
  obtain ⟨m, rfl⟩ : ∃ m : Nat, r = m := ⟨r.toNat, by omega⟩
  have hw : IntKind.i64.wrap (1 + (m : Int)) = ((1 + m : Nat) : Int) := by rw [show (1 + (m : Int)) = ((1 + m : Nat) : Int) by omega]; exact IntWalk.i64_in _ (by omega)
  obtain ⟨sz, hsz⟩ : ∃ sz, 1 + m = sz := ⟨_, rfl⟩
  rw [hsz] at hw
  have h1 : 1 ≤ sz := by omega
  have h2 : sz ≤ 6 := by omega
  go_wp2_with fail
  refine (once_any 20 cb n cap (bud + 200) a _ (by omega) (by omega) C1.out).mono ?_
  rintro e w2 ⟨r, rfl, hC, hG⟩
  have C2 := mkHid hC
  have G2 := mkHid (grown_trans G1.out hG)
  have Z2 := mkHid (Z1.out.grown hG (some_ne (by omega)))
  clear hC hG C1 G1 Z1 hsz
  cases r
  · go_wp2_with fail
    refine (HDS.out sz _ h1 (by omega) C2.out).mono ?_
    rintro e w3 ⟨z, l, ao, cp, rfl, hz, hl, hcp, ho, hC, hG⟩
    have Z3 := Z2.out.grown hG (some_ne (by omega))
    have sz2 := Z2.out.lt
    obtain ⟨⟨z0, z1⟩, z2, z3⟩ := Z3
    have HO := mkHid (fun u0 u1 => ((ho.mono (base' := w.heap.size) (by omega)).grown (grown_setCell _ ⟨w.heap.size, 0, none⟩ u0) (fun q' hq' => some_ne (by have := ho.lt hq'; show w.heap.size ≠ q'; omega))).grown (grown_setCell _ ⟨w.heap.size, 1, none⟩ u1) (fun q' hq' => some_ne (by have := ho.lt hq'; show w.heap.size ≠ q'; omega)))
    have HCC := mkHid (fun u0 u1 => (hC.set (p := ⟨w.heap.size, 0, none⟩) hlt u0).set (p := ⟨w.heap.size, 1, none⟩) hlt u1)
    have HGG := mkHid (fun u0 u1 => grown_new (p := ⟨w.heap.size, 1, none⟩) (grown_new (p := ⟨w.heap.size, 0, none⟩) (grown_trans G2.out hG) (Nat.le_refl _) u0) (Nat.le_refl _) u1)
    have HB := mkHid (And.intro hz (And.intro hl hcp))
    clear ho hC hG hz hl hcp
    go_wp2
    exact bodyPost_ret (v := .agg #[.int .i64 z, .slice ao l.length cp]) (by simp [results, Try.results63, go_sem, z0, z1]) rfl ⟨z, l, ao, cp, rfl, HB.out.1, HB.out.2.1, HB.out.2.2, HO.out _ _, HCC.out _ _, HGG.out _ _⟩
  · go_wp2_with fail
    refine (HDS.out 13 _ (by omega) (by omega) C2.out).mono ?_
    rintro e w3 ⟨z, l, ao, cp, rfl, hz, hl, hcp, ho, hC, hG⟩
    have Z3 := Z2.out.grown hG (some_ne (by omega))
    have sz2 := Z2.out.lt
    obtain ⟨⟨z0, z1⟩, z2, z3⟩ := Z3
    have HO := mkHid (fun u0 u1 => ((ho.mono (base' := w.heap.size) (by omega)).grown (grown_setCell _ ⟨w.heap.size, 0, none⟩ u0) (fun q' hq' => some_ne (by have := ho.lt hq'; show w.heap.size ≠ q'; omega))).grown (grown_setCell _ ⟨w.heap.size, 1, none⟩ u1) (fun q' hq' => some_ne (by have := ho.lt hq'; show w.heap.size ≠ q'; omega)))
    have HCC := mkHid (fun u0 u1 => (hC.set (p := ⟨w.heap.size, 0, none⟩) hlt u0).set (p := ⟨w.heap.size, 1, none⟩) hlt u1)
    have HGG := mkHid (fun u0 u1 => grown_new (p := ⟨w.heap.size, 1, none⟩) (grown_new (p := ⟨w.heap.size, 0, none⟩) (grown_trans G2.out hG) (Nat.le_refl _) u0) (Nat.le_refl _) u1)
    have HB := mkHid (And.intro hz (And.intro hl hcp))
    clear ho hC hG hz hl hcp
    go_wp2
    exact bodyPost_ret (v := .agg #[.int .i64 z, .slice ao l.length cp]) (by simp [results, Try.results63, go_sem, z0, z1]) rfl ⟨z, l, ao, cp, rfl, HB.out.1, HB.out.2.1, HB.out.2.2, HO.out _ _, HCC.out _ _, HGG.out _ _⟩
end Go.Proofs.Ytgclngofigffdaa
