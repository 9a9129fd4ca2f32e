/-
  FACTS THAT ARE WIDENED AGAIN AND AGAIN (plain): what falls at each change; what widening by one state gives.
  PURE: which numbers joined, met, widened and closed facts are so of.
  CONTRACTS of l07Draw and DrawSymMost.
-/
import Derived.Test.YtgclngofigffdaaFh17
import Derived.Test.YtgclngofigffdaaFh10
import Derived.Test.YtgclngofigffdaaFh12
import Derived.Test.YtgclngofigffdaaFh19
import Derived.Test.YtgclngofigffdaaFh14
namespace Go.Proofs.Ytgclngofigffdaa

theorem st1_cases (x t e : Int) : st1 x t e = t ∨ (st1 x t e = e ∧ x ≤ e) := by
  unfold st1
  split
  · rcases Int.le_total t e with h | h
    · exact .inl (Int.min_eq_left h)
    · exact .inr ⟨Int.min_eq_right h, by assumption⟩
  · exact .inl rfl
theorem stepM_mem (x : Int) : ∀ (l : List Int) (t : Int), x ≤ t → x ≤ stepM x t l ∧ stepM x t l ≤ t ∧ (stepM x t l = t ∨ stepM x t l ∈ l ∨ stepM x t l ∈ l.map (fun s => -s))
  | [], t, h => ⟨h, Int.le_refl _, .inl rfl⟩
  | s :: l, t, h => by
    have key : x ≤ st2 x t s ∧ st2 x t s ≤ t ∧ (st2 x t s = t ∨ st2 x t s = s ∨ st2 x t s = -s) := by
      unfold st2
      have h1 : x ≤ st1 x t s ∧ st1 x t s ≤ t := by unfold st1; split <;> omega
      have h2 : x ≤ st1 x (st1 x t s) (-s) ∧ st1 x (st1 x t s) (-s) ≤ st1 x t s := by
        generalize st1 x t s = u at h1
        unfold st1; split <;> omega
      refine ⟨h2.1, by omega, ?_⟩
      rcases st1_cases x (st1 x t s) (-s) with e | e
      · rw [e]
        rcases st1_cases x t s with e' | e'
        · exact .inl e'
        · exact .inr (.inl e'.1)
      · exact .inr (.inr e.1)
    have ih := stepM_mem x l (st2 x t s) key.1
    have e : stepM x t (s :: l) = stepM x (st2 x t s) l := rfl
    rw [e]
    refine ⟨ih.1, by omega, ?_⟩
    rcases ih.2.2 with h1 | h1 | h1
    · rw [h1]
      rcases key.2.2 with h2 | h2 | h2
      · exact .inl h2
      · exact .inr (.inl (by rw [h2]; exact List.mem_cons_self))
      · exact .inr (.inr (by rw [h2]; exact List.mem_map.2 ⟨s, List.mem_cons_self, rfl⟩))
    · exact .inr (.inl (List.mem_cons_of_mem _ h1))
    · obtain ⟨u, hu, e⟩ := List.mem_map.1 h1
      exact .inr (.inr (List.mem_map.2 ⟨u, List.mem_cons_of_mem _ hu, e⟩))
end Go.Proofs.Ytgclngofigffdaa
namespace Go.Proofs.Ytgclngofigffdaa
open Go.RowKit

theorem vok_of {v : List Int} {n : Nat} (h : Vgood v) (hl : v.length = n) : VOk n v := ⟨hl, h.2, by
  unfold valsB
  rw [List.all_eq_true]
  intro y hy
  have := h.1 y hy
  exact decide_eq_true ⟨by omega, by omega⟩⟩
/-- Facts that are ok are so of numbers just if their table is. -/
theorem has_iff {n : Nat} {l v : List Int} (hok : okF n l = true) (hv : VOk n v) : hasF n l v = true ↔ SatO n (some (tab n l)) v := by
  constructor
  · intro h
    have := (sat_ok h).1
    rw [okO_yes hok, Int.toNat_natCast] at this
    exact this
  · rintro ⟨f, e, hs⟩
    cases e
    obtain ⟨m, e, h1, h2, _, h4, h5⟩ := ok_of hok
    have e : n = m := by omega
    subst e
    have := sat_has (o := some (tab n l)) (fun f e => by cases e; exact ⟨h1, h2, h5⟩) hv ⟨_, rfl, hs⟩
    have e2 : outL (some (tab n l)) n = l := h4.symm
    rw [e2] at this
    exact this
theorem sat_none {n : Nat} {v : List Int} : hasF (outZ none n) (outL none n) v = false := has_ok (by simp [outZ, outL, okF])
theorem cF_n {n : Nat} {l : List Int} (hok : okF n l = true) : cF n l = cloO n (tab n l) := by unfold cF; rw [okO_yes hok, Int.toNat_natCast]; rfl
theorem clo_sat {n : Nat} {f : Tab} {v : List Int} : SatO n (cloO n f) v ↔ SatO n (some f) v := by
  constructor
  · rintro ⟨g, e, hs⟩
    unfold cloO at e
    split at e
    · cases e
      exact ⟨f, rfl, fun a b ha hb => Int.le_trans (hs a b ha hb) (clo_le n f a b)⟩
    · cases e
  · rintro ⟨g, e, hs⟩
    cases e
    exact sat_clo' hs
/-- An answer that may be none: it is so of numbers just if there is a table that is. -/
theorem out_has {n : Nat} {o : Option Tab} {v : List Int} (hf : FineO n o) (hv : VOk n v) : hasF (outZ o n) (outL o n) v = true ↔ SatO n o v := by
  constructor
  · intro h
    cases o with
    | none => rw [sat_none] at h; cases h
    | some f =>
      obtain ⟨h1, h2, h3⟩ := hf f rfl
      have hk : okF (n : Int) (mk n f) = true := ok_mk h1 h2 h3
      have := (has_iff hk hv).1 h
      obtain ⟨g, e, hs⟩ := this
      cases e
      exact ⟨f, rfl, fun a b ha hb => by have := hs a b ha hb; rw [show tab n (mk n f) a b = f a b from mk_V n f a b ha hb] at this; exact this⟩
  · exact sat_has hf hv
theorem bool_eq {a b : Bool} (h : a = true ↔ b = true) : a = b := Bool.eq_iff_iff.2 h
theorem close_has {n : Nat} {l v : List Int} (hok : okF n l = true) (hv : VOk n v) : hasF (outZ (cF n l) n) (outL (cF n l) n) v = hasF n l v := by
  have hf := cF_fine n l
  rw [Int.toNat_natCast] at hf
  refine bool_eq ((out_has hf hv).trans ?_)
  rw [has_iff hok hv, cF_n hok]
  exact clo_sat
theorem go_yes {n : Nat} {l l' : List Int} (h : okF n l = true) (h' : okF n l' = true) : goB n l n l' = true := by unfold goB; rw [ok_no h, ok_no h', h, h']; simp
theorem join_has {n : Nat} {l l' v : List Int} (h : okF n l = true) (h' : okF n l' = true) (hv : VOk n v) (hh : hasF n l v = true ∨ hasF n l' v = true) : hasF (joinR n l n l').1 (joinR n l n l').2 v = true := by
  have hg := go_yes h h'
  have f1 := cF_fine n l
  have f2 := cF_fine n l'
  rw [Int.toNat_natCast] at f1 f2
  have s1 : hasF n l v = true → SatO n (cF n l) v := fun q => by rw [cF_n h]; exact clo_sat.2 ((has_iff h hv).1 q)
  have s2 : hasF n l' v = true → SatO n (cF n l') v := fun q => by rw [cF_n h']; exact clo_sat.2 ((has_iff h' hv).1 q)
  cases h1 : cF n l with
  | none =>
    rw [joinR_one hg h1, Int.toNat_natCast]
    refine sat_has f2 hv ?_
    rcases hh with q | q
    · obtain ⟨_, e, _⟩ := s1 q; rw [h1] at e; cases e
    · exact s2 q
  | some f =>
    obtain ⟨k1, k2, k3⟩ := f1 f h1
    cases h2 : cF n l' with
    | none =>
      rw [joinR_other hg h1 h2, Int.toNat_natCast]
      refine sat_has (o := some f) (fun f e => by cases e; exact ⟨k1, k2, k3⟩) hv ?_
      rcases hh with q | q
      · have := s1 q; rw [h1] at this; exact this
      · obtain ⟨_, e, _⟩ := s2 q; rw [h2] at e; cases e
    | some g =>
      obtain ⟨_, _, k4⟩ := f2 g h2
      rw [joinR_both hg h1 h2, Int.toNat_natCast]
      refine sat_has (o := some fun a b => max (f a b) (g a b)) (fun _ e => by
        cases e
        refine ⟨k1, k2, fun a b ha hb => ?_⟩
        have q1 := k3 a b ha hb
        have q2 := k4 a b ha hb
        show -2000000 ≤ max (f a b) (g a b) ∧ max (f a b) (g a b) ≤ capT a b ∧ (a = b → max (f a b) (g a b) = 0)
        exact ⟨by omega, by omega, fun e => by have := q1.2.2 e; have := q2.2.2 e; omega⟩) hv ⟨_, rfl, fun a b ha hb => ?_⟩
      rcases hh with q | q
      · obtain ⟨_, e, hs⟩ := s1 q; rw [h1] at e; cases e; have := hs a b ha hb; show _ ≤ max (f a b) (g a b); omega
      · obtain ⟨_, e, hs⟩ := s2 q; rw [h2] at e; cases e; have := hs a b ha hb; show _ ≤ max (f a b) (g a b); omega
theorem meet_has {n : Nat} {l l' v : List Int} (h : okF n l = true) (h' : okF n l' = true) (hv : VOk n v) (hf : FineO n (metF n l n l')) : hasF (outZ (metF n l n l') n) (outL (metF n l n l') n) v = (hasF n l v && hasF n l' v) := by
  refine bool_eq ((out_has hf hv).trans ?_)
  rw [Bool.and_eq_true, has_iff h hv, has_iff h' hv]
  have e : metF n l n l' = cloO n (fun a b => min (tab n l a b) (tab n l' a b)) := by unfold metF; rw [h, h']; simp
  rw [e, clo_sat]
  constructor
  · rintro ⟨_, e, hs⟩
    cases e
    exact ⟨⟨_, rfl, fun a b ha hb => by have : _ ≤ min (tab n l a b) (tab n l' a b) := hs a b ha hb; omega⟩, ⟨_, rfl, fun a b ha hb => by have : _ ≤ min (tab n l a b) (tab n l' a b) := hs a b ha hb; omega⟩⟩
  · rintro ⟨⟨_, e, hs⟩, ⟨_, e', hs'⟩⟩
    cases e; cases e'
    exact ⟨_, rfl, fun a b ha hb => by have := hs a b ha hb; have := hs' a b ha hb; show _ ≤ min (tab n l a b) (tab n l' a b); omega⟩
theorem wid_has {n : Nat} {l l' st v : List Int} (h : okF n l = true) (h' : okF n l' = true) (hv : VOk n v) (hs : 0 < (widR n l n l' st).2.length) (hh : hasF n l v = true ∨ hasF n l' v = true) : hasF (widR n l n l' st).1 (widR n l n l' st).2 v = true := by
  have hg := go_yes h h'
  cases hst : stepsB st
  · rw [widR_no (by rw [hg, hst]; rfl)] at hs; simp at hs
  have f2 := cF_fine n l'
  rw [Int.toNat_natCast] at f2
  have s2 : hasF n l' v = true → SatO n (cF n l') v := fun q => by rw [cF_n h']; exact clo_sat.2 ((has_iff h' hv).1 q)
  have s1 : hasF n l v = true → SatO n (some (tab n l)) v := (has_iff h hv).1
  obtain ⟨m, e, k1, k2, _, k4, k3⟩ := ok_of h
  have e : n = m := by omega
  subst e
  cases h2 : cF n l' with
  | none =>
    rw [widR_other hg hst (ok_no h) h2]
    rcases hh with q | q
    · exact q
    · obtain ⟨_, e, _⟩ := s2 q; rw [h2] at e; cases e
  | some g =>
    obtain ⟨_, _, k5⟩ := f2 g h2
    rw [widR_both hg hst (ok_no h) h2, Int.toNat_natCast]
    have key : ∀ a b, a < n → b < n → tab n l a b ≤ widT (tab n l) g st a b ∧ g a b ≤ widT (tab n l) g st a b ∧ widT (tab n l) g st a b ≤ capT a b ∧ (a = b → widT (tab n l) g st a b = 0) := fun a b ha hb => by
      have q1 := k3 a b ha hb
      have q2 := k5 a b ha hb
      unfold widT
      split
      · have := stepM_mem (g a b) st (capT a b) q2.2.1
        exact ⟨by omega, by omega, by omega, fun e => by have := q1.2.2 e; have := q2.2.2 e; omega⟩
      · exact ⟨by omega, by omega, by omega, q1.2.2⟩
    refine sat_has (o := some (widT (tab n l) g st)) (fun _ e => by
      cases e
      exact ⟨k1, k2, fun a b ha hb => ⟨by have := k3 a b ha hb; have := key a b ha hb; omega, (key a b ha hb).2.2.1, (key a b ha hb).2.2.2⟩⟩) hv ⟨_, rfl, fun a b ha hb => ?_⟩
    rcases hh with q | q
    · obtain ⟨_, e, hs⟩ := s1 q; cases e; have := hs a b ha hb; have := key a b ha hb; omega
    · obtain ⟨_, e, hs⟩ := s2 q; rw [h2] at e; cases e; have := hs a b ha hb; have := key a b ha hb; omega
theorem add_has {n : Nat} {l v : List Int} {i j : Nat} {c : Int} (h : okF n l = true) (hv : VOk n v) (hh : hasF n l v = true) (hi : i < n) (hj : j < n) (hc : v.getD i 0 - v.getD j 0 ≤ c) (h0 : -2000000 ≤ c) : hasF (outZ (addF n l i j c) n) (outL (addF n l i j c) n) v = true := by
  obtain ⟨e, e1, e2⟩ := out_ok h
  have e3 : addF n l i j c = addO n i j c (okO n l) := by
    unfold addF
    rw [e, if_pos]
    · rw [Int.toNat_natCast, Int.toNat_natCast, Int.toNat_natCast]
    · unfold symB
      rw [Bool.and_eq_true]
      exact ⟨decide_eq_true ⟨by omega, by omega⟩, decide_eq_true ⟨by omega, by omega⟩⟩
  have hf := okO_fine n l
  rw [Int.toNat_natCast] at hf
  rw [e3]
  refine sat_has (addO_good hf (fun _ _ => ⟨hi, hj⟩) c) hv (sat_add ?_ hc h0)
  have := (sat_ok hh).1
  rw [Int.toNat_natCast] at this
  exact this
end Go.Proofs.Ytgclngofigffdaa
namespace Go.Proofs.Ytgclngofigffdaa
open Go.RowKit

set_option maxRecDepth 100000 in
set_option maxHeartbeats 1600000 in
theorem draw_any (cb n cap bud : Nat) (a : Option Addr) (w : World) (hC : Cur w cb a n cap (bud + 210)) :
    Calls Try.prog 63 #[.pointer (some ⟨cb, 0, none⟩)] w fun e w' => ∃ (z : Int) (l : List Int) (ao : Option Addr) (cp : Nat), e = .returned (.agg #[.int .i64 z, .slice ao l.length cp]) ∧ z ≤ 20 ∧ l.length ≤ 169 ∧ l.length ≤ cp ∧ OwnI w' w.heap.size (.slice ao l.length cp) l ∧ Cur w' cb a n cap bud ∧ w.grownBy w' (some cb) := by
  have hlt := hC.lt
  have C0 := mkHid ((hC.alloc (.cells #[.int .i64 0, .slice none 0 0] 26)).less (bud' := bud + 201 + 1) (by omega))
  have G0 := mkHid (World.grownBy_alloc w (.cells #[.int .i64 0, .slice none 0 0] 26) (some cb))
  have Z0 := mkHid (Fz.new w)
  have HDS : Hid (∀ (sz : Nat) (v : World), 1 ≤ sz → sz ≤ 13 → Cur v cb a n cap (bud + 200) → Calls Try.prog 73 #[.pointer (some ⟨cb, 0, none⟩), .int .i64 sz] v fun e w' => ∃ (z : Int) (l : List Int) (ao : Option Addr) (cp : Nat), e = .returned (.agg #[.int .i64 z, .slice ao l.length cp]) ∧ z ≤ 20 ∧ l.length ≤ 169 ∧ l.length ≤ cp ∧ OwnI w' v.heap.size (.slice ao l.length cp) l ∧ Cur w' cb a n cap bud ∧ v.grownBy w' (some cb)) := mkHid fun sz v h1 h2 h => drawSize_any sz cb n cap bud a v h1 h2 h
  clear hC
  go_enter Try.func63, Try.ntmps63
  go_wp2_with fail
  refine (pick_any 6 cb n cap (bud + 201) a _ (by omega) C0.out).mono ?_
  rintro e w1 ⟨r, rfl, ra, rb, hC, hG⟩
  have C1 := mkHid hC
  have G1 := mkHid (grown_trans G0.out hG)
  have Z1 := mkHid (Z0.out.grown hG (some_ne (by omega)))
  clear hC hG C0 G0 Z0
  obtain ⟨m, rfl⟩ : ∃ m : Nat, r = m := ⟨r.toNat, by omega⟩
  have hw : IntKind.i64.wrap (1 + (m : Int)) = ((1 + m : Nat) : Int) := by rw [show (1 + (m : Int)) = ((1 + m : Nat) : Int) by omega]; exact IntWalk.i64_in _ (by omega)
  obtain ⟨sz, hsz⟩ : ∃ sz, 1 + m = sz := ⟨_, rfl⟩
  rw [hsz] at hw
  have h1 : 1 ≤ sz := by omega
  have h2 : sz ≤ 6 := by omega
  go_wp2_with fail
  refine (once_any 20 cb n cap (bud + 200) a _ (by omega) (by omega) C1.out).mono ?_
  rintro e w2 ⟨r, rfl, hC, hG⟩
  have C2 := mkHid hC
  have G2 := mkHid (grown_trans G1.out hG)
  have Z2 := mkHid (Z1.out.grown hG (some_ne (by omega)))
  clear hC hG C1 G1 Z1 hsz
  cases r
  · go_wp2_with fail
    refine (HDS.out sz _ h1 (by omega) C2.out).mono ?_
    rintro e w3 ⟨z, l, ao, cp, rfl, hz, hl, hcp, ho, hC, hG⟩
    have Z3 := Z2.out.grown hG (some_ne (by omega))
    have sz2 := Z2.out.lt
    obtain ⟨⟨z0, z1⟩, z2, z3⟩ := Z3
    have HO := mkHid (fun u0 u1 => ((ho.mono (base' := w.heap.size) (by omega)).grown (grown_setCell _ ⟨w.heap.size, 0, none⟩ u0) (fun q' hq' => some_ne (by have := ho.lt hq'; show w.heap.size ≠ q'; omega))).grown (grown_setCell _ ⟨w.heap.size, 1, none⟩ u1) (fun q' hq' => some_ne (by have := ho.lt hq'; show w.heap.size ≠ q'; omega)))
    have HCC := mkHid (fun u0 u1 => (hC.set (p := ⟨w.heap.size, 0, none⟩) hlt u0).set (p := ⟨w.heap.size, 1, none⟩) hlt u1)
    have HGG := mkHid (fun u0 u1 => grown_new (p := ⟨w.heap.size, 1, none⟩) (grown_new (p := ⟨w.heap.size, 0, none⟩) (grown_trans G2.out hG) (Nat.le_refl _) u0) (Nat.le_refl _) u1)
    have HB := mkHid (And.intro hz (And.intro hl hcp))
    clear ho hC hG hz hl hcp
    go_wp2
    exact bodyPost_ret (v := .agg #[.int .i64 z, .slice ao l.length cp]) (by simp [results, Try.results63, go_sem, z0, z1]) rfl ⟨z, l, ao, cp, rfl, HB.out.1, HB.out.2.1, HB.out.2.2, HO.out _ _, HCC.out _ _, HGG.out _ _⟩
  · go_wp2_with fail
    refine (HDS.out 13 _ (by omega) (by omega) C2.out).mono ?_
    rintro e w3 ⟨z, l, ao, cp, rfl, hz, hl, hcp, ho, hC, hG⟩
    have Z3 := Z2.out.grown hG (some_ne (by omega))
    have sz2 := Z2.out.lt
    obtain ⟨⟨z0, z1⟩, z2, z3⟩ := Z3
    have HO := mkHid (fun u0 u1 => ((ho.mono (base' := w.heap.size) (by omega)).grown (grown_setCell _ ⟨w.heap.size, 0, none⟩ u0) (fun q' hq' => some_ne (by have := ho.lt hq'; show w.heap.size ≠ q'; omega))).grown (grown_setCell _ ⟨w.heap.size, 1, none⟩ u1) (fun q' hq' => some_ne (by have := ho.lt hq'; show w.heap.size ≠ q'; omega)))
    have HCC := mkHid (fun u0 u1 => (hC.set (p := ⟨w.heap.size, 0, none⟩) hlt u0).set (p := ⟨w.heap.size, 1, none⟩) hlt u1)
    have HGG := mkHid (fun u0 u1 => grown_new (p := ⟨w.heap.size, 1, none⟩) (grown_new (p := ⟨w.heap.size, 0, none⟩) (grown_trans G2.out hG) (Nat.le_refl _) u0) (Nat.le_refl _) u1)
    have HB := mkHid (And.intro hz (And.intro hl hcp))
    clear ho hC hG hz hl hcp
    go_wp2
    exact bodyPost_ret (v := .agg #[.int .i64 z, .slice ao l.length cp]) (by simp [results, Try.results63, go_sem, z0, z1]) rfl ⟨z, l, ao, cp, rfl, HB.out.1, HB.out.2.1, HB.out.2.2, HO.out _ _, HCC.out _ _, HGG.out _ _⟩
end Go.Proofs.Ytgclngofigffdaa
