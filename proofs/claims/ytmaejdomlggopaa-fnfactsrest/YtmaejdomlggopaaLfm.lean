/-
  CONTRACT of the law's own vals, and what its numbers are.
  FACTS THAT ARE WIDENED AGAIN AND AGAIN (plain): what falls at each change; what widening by one state gives.
  CONTRACT of the drawing of ranges: l06DrawRange: it answers some range, and writes the cursor's own block alone.
  CONTRACT of the drawing of steps: l06DrawSteps: it answers a row of its own, and writes the cursor's own block alone.
  CONTRACTS of DrawRangeWiden, and of the law's own pick and big.
  CONTRACTS: the law's own sameInts, sameFacts (at what is the same), and DrawFactsClose.
  CONTRACT of the specification's FactsWiden.
  FnFactsRest holds at every two rows of bytes: no conditions.
-/
import Derived.Test.YtmaejdomlggopaaDr0
import Derived.Test.YtmaejdomlggopaaWi
import Derived.Test.YtmaejdomlggopaaHp
import Derived.Test.YtmaejdomlggopaaDsz
import Derived.Test.YtmaejdomlggopaaDrw
import Derived.Test.YtmaejdomlggopaaDm
import Derived.Test.YtmaejdomlggopaaSt
import Derived.Deep.AppendLies
import Derived.OwnWalk
import Derived.Test.YtmaejdomlggopaaHs
import Derived.Test.YtmaejdomlggopaaTs
import Derived.Test.YtmaejdomlggopaaLo
import Derived.ProofKit
import Derived.OpenShut
import Derived.ChangeOld
import Derived.ChangeSlices
import Derived.Laws.OwnMore
namespace Go.Proofs.Ytmaejdomlggopaa
open Go.RowKit

/-- Numbers of a state: 0 first, each small. -/
def Vgood (l : List Int) : Prop := (∀ x ∈ l, -6 ≤ x ∧ x ≤ 17) ∧ l.getD 0 0 = 0
theorem Vgood.nil : Vgood [] := ⟨fun x h => absurd h (by simp), rfl⟩
theorem Vgood.more {l : List Int} {x : Int} (h : Vgood l) (h0 : l ≠ []) (h1 : -6 ≤ x) (h2 : x ≤ 17) : Vgood (l ++ [x]) := by
  refine ⟨fun y hy => ?_, ?_⟩
  · rcases List.mem_append.1 hy with h' | h'
    · exact h.1 y h'
    · simp at h'; omega
  · cases l with
    | nil => exact absurd rfl h0
    | cons a l => exact h.2
theorem Vgood.one : Vgood [0] := ⟨fun x h => by simp at h; omega, rfl⟩
set_option maxRecDepth 100000 in
set_option maxHeartbeats 3200000 in
theorem vals2_any (n cap t : Nat) (z : Int) (a : Option Addr) (w : World) (hn : n ≤ 1048576) (hb : Bytes w w.heap.size a n) (ht : t ≤ 100) (hz : z ≤ 20) :
    Calls Try.prog 43 #[.slice a n cap, .int .i64 t, .int .i64 z] w fun e w' => ∃ (l : List Int) (ao : Option Addr) (cp : Nat), e = .returned (.slice ao l.length cp) ∧ l.length = z.toNat ∧ Vgood l ∧ OwnI w' w.heap.size (.slice ao l.length cp) l ∧ Below w.heap.size w w' := by
  obtain ⟨i0, hi, hzz'⟩ := Option.map_eq_some_iff.1 Try.info3
  simp only [Prod.mk.injEq] at hzz'
  obtain ⟨hz0, hz1, hz2⟩ := hzz'
  have HI := mkHid (show Try.prog.info? 3 = some i0 ∧ i0.zero = some (.int .i64 0) ∧ i0.size = 1 ∧ i0.bytes = 8 from ⟨hi, hz0, hz1, hz2⟩)
  have HBY := mkHid hb
  have HN := mkHid hn
  have E8 : Hid (OwnI (w.alloc (.cells #[] 3)) w.heap.size (.slice (some ⟨w.heap.size, 0, none⟩) 0 0) []) := mkHid (OwnI.fresh (Nat.le_refl _) (heap_alloc_last w (.cells #[] 3)))
  have F8 := mkHid ((Below.refl w.heap.size w).alloc (Nat.le_refl _) (.cells #[] 3))
  obtain ⟨w9, hw9⟩ : ∃ w9, w.alloc (.cells #[] 3) = w9 := ⟨_, rfl⟩
  rw [hw9] at E8 F8
  have HW9 := mkHid hw9
  obtain ⟨q, hq⟩ : ∃ q, z.toNat = q := ⟨_, rfl⟩
  have hq20 : q ≤ 20 := by omega
  clear hi hz0 hz1 hz2 hb hn hw9
  go_enter Try.func43, Try.ntmps43
  go_wp2_with fail
  rw [HW9.out]
  go_loopg [7, 8] q (fun gh s7 s wr => ∃ (u : Nat) (l : List Int) (ao : Option Addr) (cp : Nat), u + gh = q ∧ (l.length = u ∧ Vgood l) ∧ s = .int .i64 u ∧ s7 = .slice ao u cp ∧ OwnI wr w.heap.size (.slice ao u cp) l ∧ Below w.heap.size w wr)
  case atStart => exact ⟨0, [], some ⟨w.heap.size, 0, none⟩, 0, by omega, ⟨rfl, Vgood.nil⟩, rfl, rfl, E8.out, F8.out⟩
  case round =>
    obtain ⟨u, l, ao, cp, hug, ⟨hlu, hvg⟩, rfl, rfl, hO, hB⟩ := hrel
    have HVG := mkHid hvg
    clear hvg
    have HO := mkHid hO
    have HB := mkHid hB
    have HLU := mkHid hlu
    clear hO hB hlu E8 F8
    cases gk with
    | zero =>
      have hlt : ¬ ((u : Int) < z) := by omega
      obtain rfl : l.length = u := HLU.out
      go_wp2
      go_ret
      exact ⟨l, ao, cp, rfl, by omega, HVG.out, HO.out, HB.out⟩
    | succ gh =>
      have hlt : (u : Int) < z := by omega
      have e5 : ((5 : Int) * (u : Int)) = ((5 * u : Nat) : Int) := by omega
      have e6 : ((t : Int) + ((5 * u : Nat) : Int)) = ((t + 5 * u : Nat) : Int) := by omega
      have hw5 : IntKind.i64.wrap ((5 : Int) * (u : Int)) = ((5 * u : Nat) : Int) := by rw [e5]; exact IntWalk.i64_in _ (by omega)
      have hw6 : IntKind.i64.wrap ((t : Int) + ((5 * u : Nat) : Int)) = ((t + 5 * u : Nat) : Int) := by rw [e6]; exact IntWalk.i64_in _ (by omega)
      obtain ⟨k5, hk5⟩ : ∃ k, 5 * u = k := ⟨_, rfl⟩
      rw [hk5] at hw5 hw6
      obtain ⟨k6, hk6⟩ : ∃ k, t + k5 = k := ⟨_, rfl⟩
      rw [hk6] at hw6
      have hk : k6 ≤ 1000 := by omega
      clear e5 e6
      go_wp2_with fail
      refine (lpick_any n _ wr.heap.size k6 24 a _ HN.out (HBY.out.up HB.out.size HB.out) hk (by omega) (by omega)).mono ?_
      rintro e w' ⟨r, rfl, r0, r1, rfl⟩
      have hwr : IntKind.i64.wrap (r - 6) = r - 6 := IntWalk.i64_in _ (by omega)
      have sz := HB.out.size
      have STEP : ∀ x : Int, ∀ g' cap' w4, w4.ownsRow w.heap.size 3 1 (.slice (some ⟨g', 0, none⟩) (u + 1) cap') (u + 1) (ints l ++ [.int .i64 x]) → (wr.alloc (.cells #[.int .i64 x] 3)).grownBy w4 (Value.ownBlock (.slice ao u cp)) → Hid ((l ++ [x]).length = u + 1 ∧ OwnI w4 w.heap.size (.slice (some ⟨g', 0, none⟩) (u + 1) cap') (l ++ [x]) ∧ Below w.heap.size w w4) := fun x g' cap' w4 hown hgrow => mkHid ⟨by simp [HLU.out], by
        unfold OwnI
        rw [← ints_snoc, List.length_append, HLU.out]
        exact hown, (HB.out.alloc HB.out.size _).grown hgrow (by simp; omega) (fun q' hq' => (HO.out.lt hq').1)⟩
      have HSTEP := mkHid STEP
      have HOWN : Hid (∀ x : Int, (wr.alloc (.cells #[.int .i64 x] 3)).ownsRow w.heap.size 3 1 (.slice ao u cp) u (ints l)) := mkHid fun x => World.ownsRow.alloc (by have := HO.out; unfold OwnI at this; rwa [HLU.out] at this) _
      clear STEP
      cases hu0 : ((u : Int) == 0)
      · skip
        go_wp2_with (at_builtin; refine wpList_append_lies _ rfl _ _ 22 rfl w.heap.size 3 i0 (.int .i64 0) 1 8 Try.underlying22 HI.out.1 HI.out.2.1 HI.out.2.2.1 HI.out.2.2.2 rfl (by decide) (.slice ao u cp) u (ints l) rfl (HOWN.out (r - 6)) ⟨wr.heap.size, 0, none⟩ 1 1 [.int .i64 (r - 6)] rfl (by rfl) (World.news_of_block (heap_alloc_last wr _)) (fun u hu => by simp at hu; rcases hu with rfl; rfl) (by decide) (by unfold maxLen; omega) (by omega) (by simp; omega) (wr.heap.size + 1) (by simp) ?_; intro g' cap' w4 hown hgrow hat hlt4)
        have HQ := HSTEP.out (r - 6) g' cap' w4 hown hgrow
        clear hown hgrow hat hlt4
        go_wp2
        go_roundg gh
        case measure => omega
        case rel => exact ⟨u + 1, l ++ [(r - 6)], some ⟨g', 0, none⟩, cap', by omega, ⟨HQ.out.1, HVG.out.more (fun e => by have := HLU.out; rw [e] at this; simp at this hu0; omega) (by omega) (by omega)⟩, by go_num, rfl, HQ.out.2.1, HQ.out.2.2⟩
      · skip
        go_wp2_with (at_builtin; refine wpList_append_lies _ rfl _ _ 22 rfl w.heap.size 3 i0 (.int .i64 0) 1 8 Try.underlying22 HI.out.1 HI.out.2.1 HI.out.2.2.1 HI.out.2.2.2 rfl (by decide) (.slice ao u cp) u (ints l) rfl (HOWN.out 0) ⟨wr.heap.size, 0, none⟩ 1 1 [.int .i64 0] rfl (by rfl) (World.news_of_block (heap_alloc_last wr _)) (fun u hu => by simp at hu; rcases hu with rfl; rfl) (by decide) (by unfold maxLen; omega) (by omega) (by simp; omega) (wr.heap.size + 1) (by simp) ?_; intro g' cap' w4 hown hgrow hat hlt4)
        have HQ := HSTEP.out 0 g' cap' w4 hown hgrow
        clear hown hgrow hat hlt4
        go_wp2
        go_roundg gh
        case measure => omega
        case rel => exact ⟨u + 1, l ++ [0], some ⟨g', 0, none⟩, cap', by omega, ⟨HQ.out.1, by have h := HLU.out; have hu1 : u = 0 := (by simpa using hu0); rw [hu1] at h; rw [List.length_eq_zero_iff.1 h]; exact Vgood.one⟩, by go_num, rfl, HQ.out.2.1, HQ.out.2.2⟩
end Go.Proofs.Ytmaejdomlggopaa
namespace Go.Proofs.Ytmaejdomlggopaa

theorem filt_le (p q : Int → Bool) (h : ∀ s, p s = true → q s = true) : ∀ l : List Int, (l.filter p).length ≤ (l.filter q).length
  | [] => Nat.le_refl _
  | s :: l => by
    have ih := filt_le p q h l
    by_cases hp : p s = true
    · rw [List.filter_cons_of_pos hp, List.filter_cons_of_pos (h s hp)]; simpa using ih
    · rw [List.filter_cons_of_neg hp]
      by_cases hq : q s = true
      · rw [List.filter_cons_of_pos hq]; simp; omega
      · rw [List.filter_cons_of_neg hq]; exact ih
theorem filt_lt (p q : Int → Bool) (h : ∀ s, p s = true → q s = true) (x : Int) (hp : p x = false) (hq : q x = true) : ∀ l : List Int, x ∈ l → (l.filter p).length < (l.filter q).length
  | [], hx => by cases hx
  | s :: l, hx => by
    by_cases hs : s = x
    · subst hs
      rw [List.filter_cons_of_neg (by rw [hp]; simp), List.filter_cons_of_pos hq]
      have := filt_le p q h l
      simp; omega
    · have hx' : x ∈ l := by rcases List.mem_cons.1 hx with h | h; exact absurd h.symm hs; exact h
      have ih := filt_lt p q h x hp hq l hx'
      by_cases hps : p s = true
      · rw [List.filter_cons_of_pos hps, List.filter_cons_of_pos (h s hps)]; simpa using ih
      · rw [List.filter_cons_of_neg hps]
        by_cases hqs : q s = true
        · rw [List.filter_cons_of_pos hqs]; simp; omega
        · rw [List.filter_cons_of_neg hqs]; exact ih
/-- The numbers at which an entry may come to stand. -/
def stand (st : List Int) (cp : Int) : List Int := cp :: (st ++ st.map (fun s => -s))
theorem stand_len (st : List Int) (cp : Int) : (stand st cp).length = 2 * st.length + 1 := by unfold stand; simp; omega
def potE (st : List Int) (cp x : Int) : Nat := ((stand st cp).filter fun s => decide (x < s)).length
theorem potE_le (st : List Int) (cp x : Int) : potE st cp x ≤ 2 * st.length + 1 := by
  have := List.length_filter_le (fun s => decide (x < s)) (stand st cp)
  rw [stand_len] at this
  exact this
theorem potE_lt {st : List Int} {cp x y : Int} (h : x < y) (hm : y ∈ stand st cp) : potE st cp y < potE st cp x :=
  filt_lt (fun s => decide (y < s)) (fun s => decide (x < s)) (fun s hs => by simp at hs ⊢; omega) y (by simp) (by simpa using h) _ hm
theorem st1_cases (x t e : Int) : st1 x t e = t ∨ (st1 x t e = e ∧ x ≤ e) := by
  unfold st1
  split
  · rcases Int.le_total t e with h | h
    · exact .inl (Int.min_eq_left h)
    · exact .inr ⟨Int.min_eq_right h, by assumption⟩
  · exact .inl rfl
theorem stepM_mem (x : Int) : ∀ (l : List Int) (t : Int), x ≤ t → x ≤ stepM x t l ∧ stepM x t l ≤ t ∧ (stepM x t l = t ∨ stepM x t l ∈ l ∨ stepM x t l ∈ l.map (fun s => -s))
  | [], t, h => ⟨h, Int.le_refl _, .inl rfl⟩
  | s :: l, t, h => by
    have key : x ≤ st2 x t s ∧ st2 x t s ≤ t ∧ (st2 x t s = t ∨ st2 x t s = s ∨ st2 x t s = -s) := by
      unfold st2
      have h1 : x ≤ st1 x t s ∧ st1 x t s ≤ t := by unfold st1; split <;> omega
      have h2 : x ≤ st1 x (st1 x t s) (-s) ∧ st1 x (st1 x t s) (-s) ≤ st1 x t s := by
        generalize st1 x t s = u at h1
        unfold st1; split <;> omega
      refine ⟨h2.1, by omega, ?_⟩
      rcases st1_cases x (st1 x t s) (-s) with e | e
      · rw [e]
        rcases st1_cases x t s with e' | e'
        · exact .inl e'
        · exact .inr (.inl e'.1)
      · exact .inr (.inr e.1)
    have ih := stepM_mem x l (st2 x t s) key.1
    have e : stepM x t (s :: l) = stepM x (st2 x t s) l := rfl
    rw [e]
    refine ⟨ih.1, by omega, ?_⟩
    rcases ih.2.2 with h1 | h1 | h1
    · rw [h1]
      rcases key.2.2 with h2 | h2 | h2
      · exact .inl h2
      · exact .inr (.inl (by rw [h2]; exact List.mem_cons_self))
      · exact .inr (.inr (by rw [h2]; exact List.mem_map.2 ⟨s, List.mem_cons_self, rfl⟩))
    · exact .inr (.inl (List.mem_cons_of_mem _ h1))
    · obtain ⟨u, hu, e⟩ := List.mem_map.1 h1
      exact .inr (.inr (List.mem_map.2 ⟨u, List.mem_cons_of_mem _ hu, e⟩))
/-- The differences of numbers. -/
def difT (v : List Int) : Tab := fun i j => v.getD i 0 - v.getD j 0
theorem vgood_get {v : List Int} (h : Vgood v) (i : Nat) : -6 ≤ v.getD i 0 ∧ v.getD i 0 ≤ 17 := by
  rw [List.getD_eq_getElem?_getD]
  cases e : v[i]? with
  | none => simp
  | some x => exact h.1 x (List.mem_of_getElem? e)
theorem vgood_ok {v : List Int} {n : Nat} (h : Vgood v) (hl : v.length = n) : vOkB n v = true := by
  unfold vOkB valsB
  rw [Bool.and_eq_true]
  refine ⟨decide_eq_true ⟨hl, h.2⟩, List.all_eq_true.2 fun x hx => ?_⟩
  have := h.1 x hx
  exact decide_eq_true (by omega)
theorem fine_ok {n : Nat} {f : Tab} (h1 : 1 ≤ n) (h2 : n ≤ 13) (h : Fine n f) : okF n (mk n f) = true := by
  refine ok_sure h1 h2 (mk_len n f) fun p hp => ?_
  have hi : p / n < n := Nat.div_lt_of_lt_mul hp
  have hj : p % n < n := Nat.mod_lt _ (by omega)
  have hk := h (p / n) (p % n) hi hj
  have e : (mk n f).getD p 0 = f (p / n) (p % n) := by
    unfold mk
    rw [List.getD_eq_getElem?_getD, List.getElem?_map, List.getElem?_range hp]; rfl
  rw [e]
  exact decide_eq_true ⟨hk.1, hk.2.1, by
    by_cases q : p / n = p % n
    · exact .inr (hk.2.2 q)
    · exact .inl q⟩
theorem mk_getD {n : Nat} {f : Tab} {p : Nat} (hp : p < n * n) : (mk n f).getD p 0 = f (p / n) (p % n) := by
  unfold mk
  rw [List.getD_eq_getElem?_getD, List.getElem?_map, List.getElem?_range hp]; rfl
theorem dif_fine {n : Nat} {v : List Int} (h : Vgood v) : Fine n (difT v) := fun i j _ _ => by
  have a := vgood_get h i
  have b := vgood_get h j
  unfold difT capT
  refine ⟨by omega, ?_, fun e => by rw [e]; omega⟩
  by_cases e : i = j
  · rw [if_pos e, e]; omega
  · rw [if_neg e]; split <;> omega
theorem dif_has {n : Nat} {v : List Int} (h1 : 1 ≤ n) (h2 : n ≤ 13) (h : Vgood v) (hl : v.length = n) : hasF n (mk n (difT v)) v = true := by
  refine has_all (fine_ok h1 h2 (dif_fine h)) (vgood_ok h hl) fun p hp => ?_
  rw [mk_len] at hp
  unfold leB
  rw [mk_getD hp]
  exact decide_eq_true (Int.le_refl _)
/-- What one widening gives. -/
theorem wid_one {n : Nat} {l st v : List Int} (h1 : 1 ≤ n) (h2 : n ≤ 13) (hok : okF n l = true) (hs : stepsB st = true) (hv : Vgood v) (hl : v.length = n) :
    ∃ l', widR n l n (mk n (difT v)) st = ((n : Int), l') ∧ okF n l' = true ∧ hasF n l' v = true ∧ l'.length = n * n ∧ ∀ p, p < n * n → l'.getD p 0 ≠ l.getD p 0 → potE st (capT (p / n) (p % n)) (l'.getD p 0) < potE st (capT (p / n) (p % n)) (l.getD p 0) := by
  have hb := dif_has h1 h2 hv hl
  obtain ⟨g, hg, hle⟩ := has_cF hb
  have hbo := fine_ok h1 h2 (dif_fine (n := n) hv)
  have hno := ok_no hok
  have hgo : goB n l n (mk n (difT v)) = true := by
    unfold goB
    rw [hno, ok_no hbo, hok, hbo]
    simp
  have hfg : FineO n (cF n (mk n (difT v))) := by have := cF_fine (n : Int) (mk n (difT v)); rwa [Int.toNat_natCast] at this
  rw [hg] at hfg
  have hgf : Fine n g := (hfg g rfl).2.2
  rw [Int.toNat_natCast] at hle
  have hent : Fine n (tab n l) := by
    obtain ⟨m, e, _, _, _, _, h⟩ := ok_of hok
    obtain rfl : n = m := by omega
    exact h
  have hwf : Fine n (widT (tab n l) g st) := fun i j hi hj => by
    have a := hent i j hi hj
    have b := hgf i j hi hj
    unfold widT
    by_cases q : tab n l i j < g i j
    · rw [if_pos q]
      have c := stepM_mem (g i j) st (capT i j) b.2.1
      exact ⟨by omega, c.2.1, fun e => by have := a.2.2 e; have := b.2.2 e; omega⟩
    · rw [if_neg q]; exact a
  refine ⟨mk n (widT (tab n l) g st), ?_, fine_ok h1 h2 hwf, ?_, mk_len _ _, ?_⟩
  · rw [widR_both hgo hs hno hg, Int.toNat_natCast]
  · refine has_all (fine_ok h1 h2 hwf) (vgood_ok hv hl) fun p hp => ?_
    rw [mk_len] at hp
    have hi : p / n < n := Nat.div_lt_of_lt_mul hp
    have hj : p % n < n := Nat.mod_lt _ (by omega)
    unfold leB
    rw [mk_getD hp]
    refine decide_eq_true ?_
    have c := hle (p / n) (p % n) hi hj
    unfold widT
    by_cases q : tab n l (p / n) (p % n) < g (p / n) (p % n)
    · rw [if_pos q]
      have d := stepM_mem (g (p / n) (p % n)) st (capT (p / n) (p % n)) (hgf _ _ hi hj).2.1
      omega
    · rw [if_neg q]; omega
  · intro p hp hne
    have hi : p / n < n := Nat.div_lt_of_lt_mul hp
    have hj : p % n < n := Nat.mod_lt _ (by omega)
    rw [mk_getD hp] at hne ⊢
    have e0 : tab n l (p / n) (p % n) = l.getD p 0 := by unfold tab; rw [Nat.div_add_mod' p n]
    unfold widT at hne ⊢
    by_cases q : tab n l (p / n) (p % n) < g (p / n) (p % n)
    · rw [if_pos q] at hne ⊢
      have d := stepM_mem (g (p / n) (p % n)) st (capT (p / n) (p % n)) (hgf _ _ hi hj).2.1
      refine potE_lt (by omega) ?_
      unfold stand
      rcases d.2.2 with e | e | e
      · rw [e]; exact List.mem_cons_self
      · exact List.mem_cons_of_mem _ (List.mem_append_left _ e)
      · exact List.mem_cons_of_mem _ (List.mem_append_right _ e)
    · rw [if_neg q] at hne
      exact absurd e0 hne
theorem wid_steps {z : Int} {l st : List Int} (h : (widR z l z l st).2 ≠ []) : stepsB st = true := by
  cases hs : stepsB st
  · rw [widR_no (by rw [hs]; simp)] at h
    exact absurd rfl h
  · rfl
end Go.Proofs.Ytmaejdomlggopaa
namespace Go.Proofs.Ytmaejdomlggopaa
open Go.RowKit
attribute [local go_sem] nlt2 nlt3 nlt4 nle2 nle3 nle4 drew_size drew_cell drew_frozen

theorem Cur.belowB {w w' : World} {B cb n cap bud : Nat} {a : Option Addr} (h : Cur w cb a n cap bud) (hB : cb < B) (hb : Below B w w') : Cur w' cb a n cap bud := by
  obtain ⟨x, seed, hh, h1, h2, h3, h4, hby⟩ := h
  refine ⟨x, seed, (hb.block cb hB).trans hh, h1, h2, h3, h4, ?_⟩
  rcases hby with h | ⟨b, off, e, hbl, hc⟩
  · exact .inl h
  · refine .inr ⟨b, off, e, hbl, fun i hi => ?_⟩
    obtain ⟨z, z0, z1, hz⟩ := hc i hi
    exact ⟨z, z0, z1, (hb.cell (p := ⟨b, off + i, none⟩) (by show b < _; omega)).trans hz⟩
theorem grown_belowB {w a b : World} {r : Option Nat} (hg : w.grownBy a r) (hb : Below w.heap.size a b) : w.grownBy b r :=
  ⟨hb.os.trans hg.os, hb.tape.trans hg.tape, hb.output.trans hg.output, Nat.le_trans hg.size hb.size, fun i hi hne => (hb.block i hi).trans (hg.block i hi hne)⟩
theorem below_two (B : Nat) (v : World) (x y : Value) : Below B v ((v.setCell ⟨B, 0, none⟩ x).setCell ⟨B, 1, none⟩ y) := ((Below.refl B v).setCell (p := ⟨B, 0, none⟩) (Nat.le_refl _) x).setCell (p := ⟨B, 1, none⟩) (Nat.le_refl _) y
/-- The result's box inside the call. -/
theorem Box.grownE {v v' : World} {cb b : Nat} {x y : Int} (h : Box v b x y) (hg : v.grownBy v' (some cb)) (hne : b ≠ cb) : Box v' b x y := by
  obtain ⟨h0, h1, h2, h3⟩ := h
  have hlt := World.block_lt_of_cell? v _ h0
  exact ⟨(grown_cell hg hlt hne).trans h0, (grown_cell hg hlt hne).trans h1, (grown_frozen hg hlt hne).trans h2, (grown_frozen hg hlt hne).trans h3⟩


set_option maxHeartbeats 3200000 in
theorem drawRange_any (cb n cap bud : Nat) (a : Option Addr) (w : World) (hC : Cur w cb a n cap (bud + 5)) :
    Calls Try.prog 84 #[.pointer (some ⟨cb, 0, none⟩)] w fun e w' => ∃ x y : Int, e = .returned (.agg #[.int .i64 x, .int .i64 y]) ∧ Cur w' cb a n cap bud ∧ w.grownBy w' (some cb) := by
  have HC := mkHid hC
  have hlt := hC.lt
  have hne : w.heap.size ≠ cb := by omega
  have HX := mkHid (show Box (w.alloc (.cells #[.int .i64 0, .int .i64 0] 40)) w.heap.size 0 0 by refine ⟨?_, ?_, ?_, ?_⟩ <;> simp [go_sem])
  have HC := mkHid (HC.out.alloc (.cells #[.int .i64 0, .int .i64 0] 40))
  have HG := mkHid (grown_of_below (below_alloc w (.cells #[.int .i64 0, .int .i64 0] 40)) (some cb))
  clear hC
  go_enter Try.func84, Try.ntmps84
  go_wp2_with fail
  refine (pick_any 9 cb n cap (bud + 4) a _ (by omega) HC.out).mono ?_
  rintro e w1 ⟨r, rfl, r0, r1, hC', hG'⟩
  have HC := mkHid hC'
  have HX := mkHid (HX.out.grownE hG' hne)
  have HG := mkHid (grown_trans HG.out hG')
  clear hC' hG'
  obtain ⟨p0, p1, p2, p3⟩ := HX.out
  by_cases e0 : r = 0
  · subst e0
    go_wp2_with fail
    refine (sNone_any _).mono ?_
    rintro e w2 ⟨rfl, hb⟩
    have HC := mkHid (HC.out.below hb)
    have HX := mkHid (HX.out.below hb)
    have HG := mkHid (grown_trans HG.out (grown_of_below hb (some cb)))
    clear hb
    obtain ⟨p0, p1, p2, p3⟩ := HX.out
    go_wp2
    have hb9 : Below w.heap.size w2 ((w2.setCell ⟨w.heap.size, 0, none⟩ (.int .i64 1)).setCell ⟨w.heap.size, 1, none⟩ (.int .i64 0)) := below_two _ _ _ _
    exact bodyPost_ret (v := .agg #[.int .i64 1, .int .i64 0]) (by simp [results, Try.results84, go_sem, *]) rfl ⟨_, _, rfl, (HC.out.belowB hlt hb9).less (by omega), grown_belowB HG.out hb9⟩
  by_cases e1 : r = 1
  · subst e1
    go_wp2
    have hb9 : Below w.heap.size w1 ((w1.setCell ⟨w.heap.size, 0, none⟩ (.int .i64 (-1000000))).setCell ⟨w.heap.size, 1, none⟩ (.int .i64 1000000)) := below_two _ _ _ _
    exact bodyPost_ret (v := .agg #[.int .i64 (-1000000), .int .i64 1000000]) (by simp [results, Try.results84, go_sem, *]) rfl ⟨_, _, rfl, (HC.out.belowB hlt hb9).less (by omega), grown_belowB HG.out hb9⟩
  by_cases e2 : r = 2
  · subst e2
    go_wp2_with fail
    refine (pick_any 9 cb n cap (bud + 3) a _ (by omega) HC.out).mono ?_
    rintro e w2 ⟨q, rfl, q0, q1, hC', hG'⟩
    have HC := mkHid hC'
    have HX := mkHid (HX.out.grownE hG' hne)
    have HG := mkHid (grown_trans HG.out hG')
    clear hC' hG'
    obtain ⟨p0, p1, p2, p3⟩ := HX.out
    have q2 : q ≤ 9 := by omega
    go_wp2
    have hb9 : Below w.heap.size w2 ((w2.setCell ⟨w.heap.size, 0, none⟩ (.int .i64 (q - 3))).setCell ⟨w.heap.size, 1, none⟩ (.int .i64 (q - 3))) := below_two _ _ _ _
    exact bodyPost_ret (v := .agg #[.int .i64 (q - 3), .int .i64 (q - 3)]) (by simp [results, Try.results84, go_sem, *]) rfl ⟨_, _, rfl, (HC.out.belowB hlt hb9).less (by omega), grown_belowB HG.out hb9⟩
  by_cases e3 : r = 3
  · subst e3
    go_wp2_with fail
    refine (number_any cb n cap (bud + 2) a _ HC.out).mono ?_
    rintro e w2 ⟨q, rfl, q0, q1, hC', hG'⟩
    have HC := mkHid hC'
    have HX := mkHid (HX.out.grownE hG' hne)
    have HG := mkHid (grown_trans HG.out hG')
    clear hC' hG'
    obtain ⟨p0, p1, p2, p3⟩ := HX.out
    go_wp2_with fail
    refine (number_any cb n cap bud a _ HC.out).mono ?_
    rintro e w3 ⟨s, rfl, s0, s1, hC', hG'⟩
    have HC := mkHid hC'
    have HX := mkHid (HX.out.grownE hG' hne)
    have HG := mkHid (grown_trans HG.out hG')
    clear hC' hG'
    obtain ⟨p0, p1, p2, p3⟩ := HX.out
    go_wp2
    have hb9 : Below w.heap.size w3 ((w3.setCell ⟨w.heap.size, 0, none⟩ (.int .i64 q)).setCell ⟨w.heap.size, 1, none⟩ (.int .i64 s)) := below_two _ _ _ _
    exact bodyPost_ret (v := .agg #[.int .i64 q, .int .i64 s]) (by simp [results, Try.results84, go_sem, *]) rfl ⟨_, _, rfl, (HC.out.belowB hlt hb9).less (by omega), grown_belowB HG.out hb9⟩
  go_wp2_with fail
  refine (number_any cb n cap (bud + 2) a _ HC.out).mono ?_
  rintro e w2 ⟨q, rfl, q0, q1, hC', hG'⟩
  have HC := mkHid hC'
  have HX := mkHid (HX.out.grownE hG' hne)
  have HG := mkHid (grown_trans HG.out hG')
  clear hC' hG'
  obtain ⟨p0, p1, p2, p3⟩ := HX.out
  cases hv : valB q
  · go_wp2_with (first | (go_at_call 94; refine (sVal_any _ _).mono ?_; rintro e w' ⟨rfl, rfl⟩))
    refine (pick_any 20 cb n cap (bud + 1) a _ (by omega) HC.out).mono ?_
    rintro e w3 ⟨s, rfl, s0, s1, hC', hG'⟩
    have HC := mkHid hC'
    have HX := mkHid (HX.out.grownE hG' hne)
    have HG := mkHid (grown_trans HG.out hG')
    clear hC' hG'
    obtain ⟨p0, p1, p2, p3⟩ := HX.out
    have s2 : s ≤ 20 := by omega
    go_wp2_with fail
    refine (sMake_any 0 s _).mono ?_
    rintro e w4 ⟨rfl, hb⟩
    have HC := mkHid (HC.out.below hb)
    have HX := mkHid (HX.out.below hb)
    have HG := mkHid (grown_trans HG.out (grown_of_below hb (some cb)))
    clear hb
    obtain ⟨p0, p1, p2, p3⟩ := HX.out
    go_wp2
    have hb9 : Below w.heap.size w4 ((w4.setCell ⟨w.heap.size, 0, none⟩ (.int .i64 (mkM 0 s).1)).setCell ⟨w.heap.size, 1, none⟩ (.int .i64 (mkM 0 s).2)) := below_two _ _ _ _
    exact bodyPost_ret (v := .agg #[.int .i64 (mkM 0 s).1, .int .i64 (mkM 0 s).2]) (by simp [results, Try.results84, go_sem, *]) rfl ⟨_, _, rfl, (HC.out.belowB hlt hb9).less (by omega), grown_belowB HG.out hb9⟩
  · have q4 : -1000000 ≤ q ∧ q ≤ 1000000 := by unfold valB at hv; simpa using hv
    obtain ⟨q5, q6⟩ := q4
    go_wp2_with (first | (go_at_call 94; refine (sVal_any _ _).mono ?_; rintro e w' ⟨rfl, rfl⟩))
    refine (pick_any 20 cb n cap (bud + 1) a _ (by omega) HC.out).mono ?_
    rintro e w3 ⟨s, rfl, s0, s1, hC', hG'⟩
    have HC := mkHid hC'
    have HX := mkHid (HX.out.grownE hG' hne)
    have HG := mkHid (grown_trans HG.out hG')
    clear hC' hG'
    obtain ⟨p0, p1, p2, p3⟩ := HX.out
    have s2 : s ≤ 20 := by omega
    go_wp2_with fail
    refine (sMake_any q (q + s) _).mono ?_
    rintro e w4 ⟨rfl, hb⟩
    have HC := mkHid (HC.out.below hb)
    have HX := mkHid (HX.out.below hb)
    have HG := mkHid (grown_trans HG.out (grown_of_below hb (some cb)))
    clear hb
    obtain ⟨p0, p1, p2, p3⟩ := HX.out
    go_wp2
    have hb9 : Below w.heap.size w4 ((w4.setCell ⟨w.heap.size, 0, none⟩ (.int .i64 (mkM q (q + s)).1)).setCell ⟨w.heap.size, 1, none⟩ (.int .i64 (mkM q (q + s)).2)) := below_two _ _ _ _
    exact bodyPost_ret (v := .agg #[.int .i64 (mkM q (q + s)).1, .int .i64 (mkM q (q + s)).2]) (by simp [results, Try.results84, go_sem, *]) rfl ⟨_, _, rfl, (HC.out.belowB hlt hb9).less (by omega), grown_belowB HG.out hb9⟩
end Go.Proofs.Ytmaejdomlggopaa
namespace Go.Proofs.Ytmaejdomlggopaa
open Go.RowKit

def intsE (l : List Int) : List Value := l.map (Value.int .i64)
theorem ints_getE {l : List Int} {i : Nat} : (intsE l)[i]? = (l[i]?).map (Value.int .i64) := by simp [intsE]
theorem ints_snocE (l : List Int) (x : Int) : intsE l ++ [.int .i64 x] = intsE (l ++ [x]) := by simp [intsE]
theorem Try.info3E : (Try.prog.info? 3).map (fun i => (i.zero, i.size, i.bytes)) = some (some (.int .i64 0), 1, 8) := by kernel_rfl
theorem one_new (w : World) (a : Value) (T : TypeId) (j : Nat) (u : Value) (h : [a][j]? = some u) : (w.alloc (.cells #[a] T)).cell? ((⟨w.heap.size, 0, none⟩ : Addr).add j) = some u := by
  rw [WideShapes.add_plain, Nat.zero_add, World.cell?_alloc_new]
  simpa using h
/-- What is known inside the call: the row of one's own, the cursor, that nothing else has turned. -/
def Row (w v : World) (g cp : Nat) (l : List Int) (cb n cap bud : Nat) (a : Option Addr) : Prop :=
  v.ownsRow w.heap.size 3 1 (.slice (some ⟨g, 0, none⟩) l.length cp) l.length (intsE l) ∧ Cur v cb a n cap bud ∧ cb < w.heap.size ∧ w.grownBy v (some cb)
theorem Row.pick {w v v' : World} {g cp : Nat} {l : List Int} {cb n cap bud bud' : Nat} {a : Option Addr} (h : Row w v g cp l cb n cap bud a) (hC : Cur v' cb a n cap bud') (hG : v.grownBy v' (some cb)) : Row w v' g cp l cb n cap bud' a := by
  obtain ⟨h1, _, h3, h4⟩ := h
  refine ⟨⟨h1.1, ?_⟩, hC, h3, grown_trans h4 hG⟩
  rcases h1.2 with ⟨e, _⟩ | ⟨g', cap', cur, e, hb, hg, rest⟩
  · cases e
  · have hlt := (Array.getElem?_eq_some_iff.1 hg).1
    exact .inr ⟨g', cap', cur, e, hb, (hG.block g' hlt (fun e => by have := Option.some.inj e; omega)).trans hg, rest⟩
theorem Row.less {w v : World} {g cp : Nat} {l : List Int} {cb n cap bud bud' : Nat} {a : Option Addr} (h : Row w v g cp l cb n cap bud a) (hb : bud' ≤ bud) : Row w v g cp l cb n cap bud' a := ⟨h.1, h.2.1.less hb, h.2.2⟩
theorem Row.app {w v v' : World} {g cp g' cp' : Nat} {l : List Int} {x : Int} {cb n cap bud : Nat} {a : Option Addr} (h : Row w v g cp l cb n cap bud a) (o : Obj)
    (hown : v'.ownsRow w.heap.size 3 1 (.slice (some ⟨g', 0, none⟩) (l.length + 1) cp') (l.length + 1) (intsE l ++ [.int .i64 x])) (hG : (v.alloc o).grownBy v' (Value.ownBlock (.slice (some ⟨g, 0, none⟩) l.length cp))) : Row w v' g' cp' (l ++ [x]) cb n cap bud a := by
  obtain ⟨h1, h2, h3, h4⟩ := h
  have hB : Below w.heap.size v v' := ((Below.refl _ _).alloc h4.size o).trans (Below.grown (Below.refl _ _) hG (by have := h4.size; simp; omega) (fun k hk => by
    have := (World.ownsRow.lt h1 k hk).1
    exact this))
  refine ⟨?_, h2.belowB h3 hB, h3, grown_belowB h4 hB⟩
  rw [ints_snocE] at hown
  simpa using hown
theorem Row.ints {w v : World} {g cp : Nat} {l : List Int} {cb n cap bud : Nat} {a : Option Addr} (h : Row w v g cp l cb n cap bud a) : IntsIn v l g 0 := fun i x hx => by
  have hi := (List.getElem?_eq_some_iff.1 hx).1
  have := World.ownsRow.cellAt h.1 i (by omega)
  rw [Nat.zero_add, this, ints_getE, hx]; rfl

set_option maxHeartbeats 6400000 in
theorem drawSteps_any (cb n cap bud : Nat) (a : Option Addr) (w : World) (hC : Cur w cb a n cap (bud + 40)) :
    Calls Try.prog 85 #[.pointer (some ⟨cb, 0, none⟩)] w fun e w' => ∃ (l : List Int) (g cp : Nat), e = .returned (.slice (some ⟨g, 0, none⟩) l.length cp) ∧ l.length ≤ 30 ∧ Row w w' g cp l cb n cap bud a := by
  obtain ⟨i0, hi, hz⟩ := Option.map_eq_some_iff.1 Try.info3E
  simp only [Prod.mk.injEq] at hz
  obtain ⟨hz0, hz1, hz2⟩ := hz
  have HI := mkHid (show Try.prog.info? 3 = some i0 ∧ i0.zero = some (.int .i64 0) ∧ i0.size = 1 ∧ i0.bytes = 8 from ⟨hi, hz0, hz1, hz2⟩)
  have HR : Hid (Row w (w.alloc (.cells #[] 3)) w.heap.size 0 [] cb n cap (bud + 40) a) := mkHid ⟨⟨rfl, .inr ⟨w.heap.size, 0, #[], rfl, Nat.le_refl _, by have := heap_alloc_new w (.cells #[] 3); simpa using this, Nat.le_refl _, by unfold maxLen; omega, rfl, rfl⟩⟩, hC.alloc _, hC.lt, grown_of_below (below_alloc w _) (some cb)⟩
  clear hi hz0 hz1 hz2 hC
  go_enter Try.func85, Try.ntmps85
  go_wp2_with fail
  refine (pick_any 7 cb n cap (bud + 39) a _ (by omega) HR.out.2.1).mono ?_
  rintro e w1 ⟨r, rfl, r0, r1, hC', hG'⟩
  have HR := mkHid (HR.out.pick hC' hG')
  clear hC' hG' 
  have r2 : r ≤ 6 := by omega
  obtain ⟨m, rfl⟩ : ∃ m : Nat, r = m := ⟨r.toNat, by omega⟩
  clear r0 r1
  go_wp2_with fail
  go_loopw [3, 4, 5] (fun s x k v => ∃ (l : List Int) (y : Int) (g cp j : Nat), l.length + j ≤ 6 ∧ k = .int .i64 j ∧ s = .slice (some ⟨g, 0, none⟩) l.length cp ∧ x = .int .i64 y ∧ -30 ≤ y ∧ y ≤ 26 * l.length ∧ Row w v g cp l cb n cap (bud + 32 + j) a) (fun _ _ k _ => (intOf k).toNat)
  case atStart => exact ⟨[], -30, w.heap.size, 0, m, by simp <;> omega, rfl, rfl, rfl, by omega, by simp, HR.out.less (by omega)⟩
  case round =>
    clear HR
    obtain ⟨l, y, g, cp, j, hj, rfl, rfl, rfl, y0, y1, hR⟩ := hrel
    have HR := mkHid hR
    clear hR
    by_cases hj0 : 1 ≤ j
    · go_wp2_with fail
      refine (pick_any 25 cb n cap (bud + 32 + (j - 1)) a _ (by omega) (HR.out.2.1.less (by omega))).mono ?_
      rintro e w2 ⟨q, rfl, q0, q1, hC', hG'⟩
      have HR := mkHid (HR.out.pick hC' hG')
      clear hC' hG' 
      have q2 : q ≤ 25 := by omega
      go_wp2_with (at_builtin; refine wpList_append_lies _ rfl _ _ 22 rfl w.heap.size 3 i0 (.int .i64 0) 1 8 Try.underlying22 HI.out.1 HI.out.2.1 HI.out.2.2.1 HI.out.2.2.2 rfl (by decide) _ _ _ rfl (World.ownsRow.alloc HR.out.1 _) ⟨w2.heap.size, 0, none⟩ 1 1 [.int .i64 (y + 1 + q)] rfl rfl ?c1b ?c2b (by decide) ?c3b ?c4b ?c5b (w2.heap.size + 1) (by simp) ?_)
      case c1b => exact one_new _ _ _
      case c2b => intro u hu; simp at hu; rcases hu with rfl; rfl
      case c3b => unfold maxLen; omega
      case c4b => omega
      case c5b => have := HR.out.2.2.2.size; simp; omega
      intro g' cp' w9 hown' hgrow _ _
      have HR := mkHid (HR.out.app _ hown' hgrow)
      clear hown' hgrow
      go_wp2
      go_roundw
      case rel => exact ⟨l ++ [y + 1 + q], y + 1 + q, g', cp', j - 1, by simp <;> omega, by congr 1; omega, by simp, rfl, by omega, by simp <;> omega, HR.out⟩
      case measure => simp [intOf]; omega
    · have ej : j = 0 := by omega
      subst ej
      go_wp2_with fail
      refine (pick_any 30 cb n cap (bud + 31) a _ (by omega) (HR.out.2.1.less (by omega))).mono ?_
      rintro e w2 ⟨q, rfl, q0, q1, hC', hG'⟩
      have HR := mkHid (HR.out.pick hC' hG')
      clear hC' hG' 
      by_cases e0 : q = 0
      · subst e0
        go_wp2_with (at_builtin; refine wpList_append_lies _ rfl _ _ 22 rfl w.heap.size 3 i0 (.int .i64 0) 1 8 Try.underlying22 HI.out.1 HI.out.2.1 HI.out.2.2.1 HI.out.2.2.2 rfl (by decide) _ _ _ rfl (World.ownsRow.alloc HR.out.1 _) ⟨w2.heap.size, 0, none⟩ 1 1 [.int .i64 y] rfl rfl ?c1c ?c2c (by decide) ?c3c ?c4c ?c5c (w2.heap.size + 1) (by simp) ?_)
        case c1c => exact one_new _ _ _
        case c2c => intro u hu; simp at hu; rcases hu with rfl; rfl
        case c3c => unfold maxLen; omega
        case c4c => omega
        case c5c => have := HR.out.2.2.2.size; simp; omega
        intro g' cp' w9 hown' hgrow _ _
        have HR := mkHid (HR.out.app _ hown' hgrow)
        clear hown' hgrow
        go_wp2
        go_ret
        exact ⟨l ++ [y], g', cp', (by rw [List.length_append]; rfl), by simp <;> omega, HR.out.less (by omega)⟩
      by_cases e1 : q = 1
      · subst e1
        go_wp2_with fail
        refine (pick_any 2 cb n cap (bud + 30) a _ (by omega) HR.out.2.1).mono ?_
        rintro e w3 ⟨s, rfl, s0, s1, hC', hG'⟩
        have HR := mkHid (HR.out.pick hC' hG')
        clear hC' hG' 
        have s2 : s ≤ 1 := by omega
        go_wp2_with (at_builtin; refine wpList_append_lies _ rfl _ _ 22 rfl w.heap.size 3 i0 (.int .i64 0) 1 8 Try.underlying22 HI.out.1 HI.out.2.1 HI.out.2.2.1 HI.out.2.2.2 rfl (by decide) _ _ _ rfl (World.ownsRow.alloc HR.out.1 _) ⟨w3.heap.size, 0, none⟩ 1 1 [.int .i64 (1000000 + s)] rfl rfl ?c1d ?c2d (by decide) ?c3d ?c4d ?c5d (w3.heap.size + 1) (by simp) ?_)
        case c1d => exact one_new _ _ _
        case c2d => intro u hu; simp at hu; rcases hu with rfl; rfl
        case c3d => unfold maxLen; omega
        case c4d => omega
        case c5d => have := HR.out.2.2.2.size; simp; omega
        intro g' cp' w9 hown' hgrow _ _
        have HR := mkHid (HR.out.app _ hown' hgrow)
        clear hown' hgrow
        go_wp2
        go_ret
        exact ⟨l ++ [1000000 + s], g', cp', (by rw [List.length_append]; rfl), by simp <;> omega, HR.out.less (by omega)⟩
      by_cases e2 : q = 2
      · subst e2
        go_wp2_with fail
        go_loopw [3, 4] (fun s x v => ∃ (l : List Int) (y : Int) (g cp : Nat), l.length ≤ 21 ∧ s = .slice (some ⟨g, 0, none⟩) l.length cp ∧ x = .int .i64 y ∧ -30 ≤ y ∧ y ≤ 26 * l.length ∧ Row w v g cp l cb n cap (bud + (25 - l.length)) a) (fun s _ _ => 22 - (match s with | .slice _ k _ => k | _ => 0))
        case atStart => exact ⟨l, y, g, cp, by omega, rfl, rfl, by omega, by omega, HR.out.less (by omega)⟩
        case round =>
          clear HR
          obtain ⟨l, y, g, cp, hl, rfl, rfl, y0, y1, hR⟩ := hrel
          have HR := mkHid hR
          clear hR
          go_wp2_with fail
          refine (pick_any 2 cb n cap (bud + (24 - l.length)) a _ (by omega) (HR.out.2.1.less (by omega))).mono ?_
          rintro e w4 ⟨q, rfl, q0, q1, hC', hG'⟩
          have HR := mkHid (HR.out.pick hC' hG')
          clear hC' hG' 
          have q2 : q ≤ 1 := by omega
          by_cases hc : (l.length : Int) < 20 + q
          · go_wp2_with (at_builtin; refine wpList_append_lies _ rfl _ _ 22 rfl w.heap.size 3 i0 (.int .i64 0) 1 8 Try.underlying22 HI.out.1 HI.out.2.1 HI.out.2.2.1 HI.out.2.2.2 rfl (by decide) _ _ _ rfl (World.ownsRow.alloc HR.out.1 _) ⟨w4.heap.size, 0, none⟩ 1 1 [.int .i64 (y + 1)] rfl rfl ?c1a ?c2a (by decide) ?c3a ?c4a ?c5a (w4.heap.size + 1) (by simp) ?_)
            case c1a => exact one_new _ _ _
            case c2a => intro u hu; simp at hu; rcases hu with rfl; rfl
            case c3a => unfold maxLen; omega
            case c4a => omega
            case c5a => have := HR.out.2.2.2.size; simp; omega
            intro g' cp' w9 hown' hgrow _ _
            have HR := mkHid (HR.out.app _ hown' hgrow)
            clear hown' hgrow
            go_wp2
            go_roundw
            case rel => exact ⟨l ++ [y + 1], y + 1, g', cp', by simp <;> omega, by simp, rfl, by omega, by simp <;> omega, HR.out.less (by simp <;> omega)⟩
            case measure => simp; omega
          · go_wp2
            go_ret
            exact ⟨_, _, _, rfl, by omega, HR.out.less (by omega)⟩
      go_wp2
      go_ret
      exact ⟨_, _, _, rfl, by omega, HR.out.less (by omega)⟩
end Go.Proofs.Ytmaejdomlggopaa
namespace Go.Proofs.Ytmaejdomlggopaa
open Go.RowKit
attribute [local go_sem] nlt2 nlt3 nlt4 nle2 nle3 nle4 drew_size drew_cell drew_frozen


theorem openC_anyE (n cap : Nat) (a : Option Addr) (w : World) (hn : n ≤ 1048576) (hb : Bytes w w.heap.size a n) :
    Calls Try.prog 82 #[.slice a n cap] w fun e w' => ∃ cb, e = .returned (.pointer (some ⟨cb, 0, none⟩)) ∧ w.heap.size ≤ cb ∧ Cur w' cb a n cap 499999 ∧ Below w.heap.size w w' :=
  (open_any n cap a w hn hb).mono fun _ _ h => ⟨_, h.1, Nat.le_refl _, h.2.1, h.2.2⟩
theorem IntsIn.set {v : World} {l : List Int} {g p i : Nat} {u : Value} (h : IntsIn v l g 0) (hne : g ≠ p) : IntsIn (v.setCell ⟨p, i, none⟩ u) l g 0 := fun j x hx =>
  (World.cell?_of_block (w := v) (Below.heap_setCell v ⟨p, i, none⟩ u g hne)).trans (h j x hx)
/-- Boxes, the cursor, and that nothing old has turned. -/
def Dz (w v : World) (P Q : Nat) (x1 y1 x2 y2 : Int) (cb n cap bud : Nat) (a : Option Addr) : Prop :=
  Box v w.heap.size 0 0 ∧ Box v (w.heap.size + 1) 0 0 ∧ Box v P x1 y1 ∧ Box v Q x2 y2 ∧ Cur v cb a n cap bud ∧ w.heap.size + 2 ≤ cb ∧ P ≠ cb ∧ Q ≠ cb ∧ w.heap.size + 1 < P ∧ w.heap.size + 1 < Q ∧ Below w.heap.size w v
theorem below_of_grown {w v v' : World} {cb : Nat} (h : Below w.heap.size w v) (hg : v.grownBy v' (some cb)) (hcb : w.heap.size ≤ cb) : Below w.heap.size w v' :=
  Below.grown h hg h.size (fun k hk => by cases hk; exact hcb)
theorem Dz.grown {w v v' : World} {P Q : Nat} {x1 y1 x2 y2 : Int} {cb n cap bud bud' : Nat} {a : Option Addr} (h : Dz w v P Q x1 y1 x2 y2 cb n cap bud a) (hC : Cur v' cb a n cap bud') (hg : v.grownBy v' (some cb)) : Dz w v' P Q x1 y1 x2 y2 cb n cap bud' a := by
  obtain ⟨h1, h2, h3, h4, _, h6, h7, h8, h9, h10, h11⟩ := h
  exact ⟨h1.grownE hg (by omega), h2.grownE hg (by omega), h3.grownE hg h7, h4.grownE hg h8, hC, h6, h7, h8, h9, h10, below_of_grown h11 hg (by omega)⟩

set_option maxHeartbeats 3200000 in
theorem drawWiden_any (n cap : Nat) (a : Option Addr) (w : World) (hn : n ≤ 1048576) (hb0 : Bytes w w.heap.size a n) :
    Calls Try.prog 41 #[.slice a n cap] w fun e w' => ∃ (x1 y1 x2 y2 : Int) (l : List Int) (g cp : Nat), e = .returned (.tuple #[.agg #[.int .i64 x1, .int .i64 y1], .agg #[.int .i64 x2, .int .i64 y2], .slice (some ⟨g, 0, none⟩) l.length cp]) ∧ l.length ≤ 30 ∧ IntsIn w' l g 0 ∧ (w.heap.size ≤ g ∧ g < w'.heap.size) ∧ Below w.heap.size w w' := by
  have BA := mkHid (bl_alloc (bl_alloc (Below.refl w.heap.size w) (.cells #[.int .i64 0, .int .i64 0] 40)) (.cells #[.int .i64 0, .int .i64 0] 40))
  have HY := mkHid (hb0.up (by simp; omega : w.heap.size ≤ ((w.alloc (.cells #[.int .i64 0, .int .i64 0] 40)).alloc (.cells #[.int .i64 0, .int .i64 0] 40)).heap.size) BA.out)
  have X0 := mkHid (show Box ((w.alloc (.cells #[.int .i64 0, .int .i64 0] 40)).alloc (.cells #[.int .i64 0, .int .i64 0] 40)) w.heap.size 0 0 by refine ⟨?_, ?_, ?_, ?_⟩ <;> simp [go_sem])
  have X1 := mkHid (show Box ((w.alloc (.cells #[.int .i64 0, .int .i64 0] 40)).alloc (.cells #[.int .i64 0, .int .i64 0] 40)) (w.heap.size + 1) 0 0 by refine ⟨?_, ?_, ?_, ?_⟩ <;> simp [go_sem])
  clear hb0
  go_enter Try.func41, Try.ntmps41
  go_wp2_with fail
  refine (openC_anyE n cap a _ hn HY.out).mono ?_
  rintro e w1 ⟨cb, rfl, hcb, hC, hb⟩
  have hcb2 : w.heap.size + 2 ≤ cb := by simp at hcb; omega
  have X0 := mkHid (X0.out.below hb)
  have X1 := mkHid (X1.out.below hb)
  have BA := mkHid (below_step BA.out hb)
  have HC := mkHid hC
  clear hb hcb hC HY
  go_wp2_with fail
  refine (drawRange_any cb n cap 400060 a _ (HC.out.less (by omega))).mono ?_
  rintro e w2 ⟨x1, y1, rfl, hC, hg⟩
  have X0 := mkHid (X0.out.grownE hg (by omega))
  have X1 := mkHid (X1.out.grownE hg (by omega))
  have BA := mkHid (below_of_grown BA.out hg (by omega))
  have HC := mkHid hC
  clear hC hg
  have hal := below_alloc w2 (.cells #[.int .i64 x1, .int .i64 y1] 40)
  have X0 := mkHid (X0.out.below hal)
  have X1 := mkHid (X1.out.below hal)
  have X2 := mkHid (show Box (w2.alloc (.cells #[.int .i64 x1, .int .i64 y1] 40)) w2.heap.size x1 y1 by refine ⟨?_, ?_, ?_, ?_⟩ <;> simp [go_sem])
  have BA := mkHid (below_step BA.out hal)
  have hlt := HC.out.lt
  have HC := mkHid (HC.out.below hal)
  clear hal
  obtain ⟨P, hP⟩ : ∃ P, P = w2.heap.size := ⟨_, rfl⟩
  have hPc : P ≠ cb := by omega
  have hPw : w.heap.size + 1 < P := by omega
  obtain ⟨v2, hv2⟩ : ∃ v, v = w2.alloc (.cells #[.int .i64 x1, .int .i64 y1] 40) := ⟨_, rfl⟩
  go_wp2_with fail
  rw [← hv2, ← hP]
  rw [← hv2] at HC X0 X1 X2 BA
  rw [← hP] at X2
  clear hv2 hP hlt
  refine (drawRange_any cb n cap 400050 a _ (HC.out.less (by omega))).mono ?_
  rintro e w3 ⟨x2, y2, rfl, hC, hg⟩
  have X0 := mkHid (X0.out.grownE hg (by omega))
  have X1 := mkHid (X1.out.grownE hg (by omega))
  have X2 := mkHid (X2.out.grownE hg hPc)
  have BA := mkHid (below_of_grown BA.out hg (by omega))
  have hlt := hC.lt
  have hal := below_alloc w3 (.cells #[.int .i64 x2, .int .i64 y2] 40)
  have K : Hid (Dz w (w3.alloc (.cells #[.int .i64 x2, .int .i64 y2] 40)) P w3.heap.size x1 y1 x2 y2 cb n cap 400050 a) := mkHid ⟨X0.out.below hal, X1.out.below hal, X2.out.below hal, (by refine ⟨?_, ?_, ?_, ?_⟩ <;> simp [go_sem]), hC.below hal, hcb2, hPc, by omega, hPw, by omega, below_step BA.out hal⟩
  clear hC hg X0 X1 X2 BA hal HC
  obtain ⟨Q, hQ⟩ : ∃ Q, Q = w3.heap.size := ⟨_, rfl⟩
  obtain ⟨v3, hv3⟩ : ∃ v, v = w3.alloc (.cells #[.int .i64 x2, .int .i64 y2] 40) := ⟨_, rfl⟩
  go_wp2_with fail
  rw [← hv3, ← hQ]
  rw [← hv3, ← hQ] at K
  clear hv3 hQ hlt hPc hPw hcb2
  obtain ⟨⟨p0, p1, p2, p3⟩, ⟨p4, p5, p6, p7⟩, ⟨p8, p9, p10, p11⟩, ⟨p12, p13, p14, p15⟩, _, d1, d2, d3, d4, d5, hB⟩ := K.out
  go_region_held3 (fun v => v.cell? ⟨P, 0, none⟩ = some (.int .i64 x1) ∧ v.cell? ⟨P, 1, none⟩ = some (.int .i64 y1) ∧ v.cell? ⟨Q, 0, none⟩ = some (.int .i64 x2) ∧ v.cell? ⟨Q, 1, none⟩ = some (.int .i64 y2)) (first | (simp (maxDischargeDepth := 12) [*, go_sem]; done) | assumption) (first | (go_at_call 85; refine (drawSteps_any cb n cap 400000 a _ ((K.out.2.2.2.2.1.below ((Below.refl _ _).drew)).less (by omega))).mono ?_; rintro e w9 ⟨l, g, cp, rfl, hl, hR⟩; have K := mkHid (K.out.grown hR.2.1 (grown_trans (grown_of_below ((Below.refl _ _).drew) (some cb)) hR.2.2.2)); have HI := mkHid hR.ints; have hgb := (World.ownsRow.lt hR.1 g rfl).1; have hgs := (World.ownsRow.lt hR.1 g rfl).2; have hgw : w.heap.size + 1 < g := (by have hq9 : Q < v3.heap.size := World.block_lt_of_cell? v3 _ p12; have : v3.heap.size ≤ g := hgb; omega); clear hR hgb; obtain ⟨⟨p0, p1, p2, p3⟩, ⟨p4, p5, p6, p7⟩, ⟨p8, p9, p10, p11⟩, ⟨p12, p13, p14, p15⟩, _, d1, d2, d3, d4, d5, hB⟩ := K.out))
  all_goals
    go_wp2
    have hbx : Below w.heap.size w ((((w9.setCell ⟨w.heap.size, 0, none⟩ (.int .i64 x1)).setCell ⟨w.heap.size, 1, none⟩ (.int .i64 y1)).setCell ⟨w.heap.size + 1, 0, none⟩ (.int .i64 x2)).setCell ⟨w.heap.size + 1, 1, none⟩ (.int .i64 y2)) := (by repeat (first | with_reducible exact Below.refl _ _ | (with_reducible refine bl_set2 ?_ ?_ _; (first | (simp; done) | (simp [*]; done) | (simp [*] <;> omega))) | with_reducible refine bl_drew ?_ | with_reducible refine bl_alloc ?_ _ | with_reducible refine below_step ?_ (by assumption) | with_reducible assumption))
    have hii : IntsIn ((((w9.setCell ⟨w.heap.size, 0, none⟩ (.int .i64 x1)).setCell ⟨w.heap.size, 1, none⟩ (.int .i64 y1)).setCell ⟨w.heap.size + 1, 0, none⟩ (.int .i64 x2)).setCell ⟨w.heap.size + 1, 1, none⟩ (.int .i64 y2)) l g 0 := (((HI.out.set (by omega)).set (by omega)).set (by omega)).set (by omega)
    exact bodyPost_ret (v := .tuple #[.agg #[.int .i64 x1, .int .i64 y1], .agg #[.int .i64 x2, .int .i64 y2], .slice (some ⟨g, 0, none⟩) l.length cp]) (by simp [results, Try.results41, go_sem, *]) rfl ⟨x1, y1, x2, y2, l, g, cp, rfl, hl, hii, ⟨by omega, by simpa using hgs⟩, hbx⟩

theorem big_anyE (n cap : Nat) (a : Option Addr) (w : World) (hn : n ≤ maxLen) : Calls Try.prog 39 #[.slice a n cap] w fun e w' => e = .returned (.bool (decide (1048576 < n))) ∧ w = w' := by
  unfold maxLen at hn
  by_cases h : 1048576 < n
  · have h' : (1048576 : Int) < (n : Int) := by omega
    go_enter Try.func39, Try.ntmps39
    go_wp2
    go_ret
    exact ⟨ret_bool (by first | rfl | simp [h]), rfl⟩
  · have h' : ¬ (1048576 : Int) < (n : Int) := by omega
    go_enter Try.func39, Try.ntmps39
    go_wp2
    go_ret
    exact ⟨ret_bool (by first | rfl | simp [h]), rfl⟩
set_option maxHeartbeats 1600000 in
theorem lpick_anyE (n cap B t : Nat) (m : Int) (a : Option Addr) (w : World) (hn : n ≤ 1048576) (hb : Bytes w B a n) (ht : t ≤ 100) (hm0 : 2 ≤ m) (hm : m ≤ 10000) :
    Calls Try.prog 86 #[.slice a n cap, .int .i64 t, .int .i64 m] w fun e w' => ∃ r : Int, e = .returned (.int .i64 r) ∧ 0 ≤ r ∧ r < m ∧ w = w' := by
  have HY := mkHid hb
  clear hb
  by_cases h0 : n = 0
  · subst h0
    go_enter Try.func86, Try.ntmps86
    go_wp2
    go_ret
    exact ⟨0, rfl, by omega, by omega, rfl⟩
  · obtain ⟨b, off, rfl, _, hc⟩ : ∃ b off, a = some ⟨b, off, none⟩ ∧ b < B ∧ ∀ i, i < n → ∃ z : Int, 0 ≤ z ∧ z ≤ 255 ∧ w.cell? ⟨b, off + i, none⟩ = some (.int .u8 z) := by
      rcases HY.out with h | h
      · exact absurd h h0
      · exact h
    have HC := mkHid hc
    have n1 : (1 : Int) ≤ (n : Int) := by omega
    have n3 : ¬ n = 0 := h0
    have n4 : ((n : Int) == 0) = false := by simpa using h0
    have n5 : decide (m < 2) = false := by simp; omega
    clear hc HY h0
    go_enter Try.func86, Try.ntmps86
    go_wp2
    go_loopw [7, 8] (fun x k v => ∃ (j : Nat) (y : Int), j ≤ 3 ∧ k = .int .i64 j ∧ x = .int .i64 y ∧ 0 ≤ y ∧ y ≤ 300000 ∧ (j = 0 → y ≤ 0) ∧ (j = 1 → y ≤ 255) ∧ (j = 2 → y ≤ 8160) ∧ v = w) (fun _ k _ => 3 - (intOf k).toNat)
    case atStart => exact ⟨0, 0, by omega, rfl, rfl, by omega, by omega, fun _ => by omega, fun h => by omega, fun h => by omega, rfl⟩
    case round =>
      obtain ⟨j, y, hj, rfl, rfl, y0, y1, y2, y3, y4, rfl⟩ := hrel
      by_cases hlt : j < 3
      · obtain ⟨z, hz⟩ : ∃ z, z = (t + j) % n := ⟨_, rfl⟩
        have hzn : z < n := by rw [hz]; exact Nat.mod_lt _ (by omega)
        obtain ⟨u, u0, u1, c0⟩ := HC.out z hzn
        have e1 : ((t : Int) + (j : Int)) % (n : Int) = (z : Int) := by rw [hz]; norm_cast
        have e2 : Int.tmod ((t : Int) + (j : Int)) (n : Int) = (z : Int) := by rw [Int.tmod_eq_emod_of_nonneg (by omega)]; exact e1
        have z0 : (0 : Int) ≤ (z : Int) := by omega
        have z1 : (z : Int) < (n : Int) := by omega
        have HZ := mkHid hz
        have yb : y ≤ 8160 := by omega
        have Y := mkHid (And.intro y2 (And.intro y3 y4))
        clear hz y2 y3 y4
        go_wp2
        go_roundw
        case rel => exact ⟨j + 1, 31 * y + u, by omega, by go_num, rfl, by omega, by omega, fun h => by omega, fun h => by have := Y.out.1; omega, fun h => by have := Y.out.2.1; omega, by trivial⟩
        case measure => simp [intOf]; omega
      · have y5 : 0 ≤ y + (t : Int) := by omega
        clear y2 y3 y4
        go_wp2
        go_ret
        exact ⟨_, rfl, Int.emod_nonneg _ (by omega), Int.emod_lt_of_pos _ (by omega), rfl⟩
end Go.Proofs.Ytmaejdomlggopaa
namespace Go.Proofs.Ytmaejdomlggopaa
open Go.RowKit

set_option maxRecDepth 100000 in
set_option maxHeartbeats 1600000 in
theorem sameInts_ok (l : List Int) (a a' : Option Addr) (c c' : Nat) (w : World) (hn : l.length ≤ maxLen) (hl : IntsAt w a l) (hl' : IntsAt w a' l) :
    Calls Try.prog 87 #[.slice a l.length c, .slice a' l.length c'] w fun e w' => e = .returned (.bool true) ∧ Below w.heap.size w w' := by
  have HL := mkHid hl
  have HL' := mkHid hl'
  unfold maxLen at hn
  clear hl hl'
  have hne : ((l.length : Int) != (l.length : Int)) = false := by simp
  go_enter Try.func87, Try.ntmps87
  go_wp2
  go_loopg [5] l.length (fun g s wr => ∃ k : Nat, k + g = l.length ∧ s = .int .i64 k ∧ Below w.heap.size w wr)
  case atStart => exact ⟨0, by omega, rfl, Below.refl _ _⟩
  case round =>
    obtain ⟨k, hk, rfl, hB⟩ := hrel
    have HB := mkHid hB
    clear hB
    cases gk with
    | zero =>
      have hlt : ¬ ((k : Int) < (l.length : Int)) := by omega
      go_wp2
      go_ret
      exact ⟨rfl, HB.out⟩
    | succ g =>
      have hlt : (k : Int) < (l.length : Int) := by omega
      obtain ⟨b, o, rfl, c0⟩ := IntsAt.get' (HL.out.below HB.out) (k := k) (by omega)
      obtain ⟨b', o', rfl, c1⟩ := IntsAt.get' (HL'.out.below HB.out) (k := k) (by omega)
      obtain ⟨x, hx⟩ : ∃ x, l.getD k 0 = x := ⟨_, rfl⟩
      rw [hx] at c0 c1
      clear hx
      have hxx : (x != x) = false := by simp
      have k0 : (0 : Int) ≤ (k : Int) := by omega
      go_wp2_with fail
      go_quiet (fail)
      go_wp2
      go_roundg g
      case measure => omega
      case rel => exact ⟨k + 1, by omega, by go_num, HB.out.trans ⟨rfl, rfl, rfl, Nat.le_refl _, fun _ _ => rfl⟩⟩

set_option maxRecDepth 100000 in
set_option maxHeartbeats 1600000 in
theorem sameFacts_ok (z : Int) (l : List Int) (a a' : Option Addr) (c c' : Nat) (w : World) (hn : l.length ≤ maxLen) (hl : IntsAt w a l) (hl' : IntsAt w a' l) :
    Calls Try.prog 45 #[.agg #[.int .i64 z, .slice a l.length c], .agg #[.int .i64 z, .slice a' l.length c']] w fun e w' => e = .returned (.bool true) ∧ Below w.heap.size w w' := by
  have HL := mkHid hl
  have HL' := mkHid hl'
  have HN := mkHid hn
  clear hl hl' hn
  have hzz : (z == z) = true := by simp
  have B0 := mkHid (bl_alloc (bl_alloc (Below.refl w.heap.size w) (.cells #[.int .i64 z, .slice a l.length c] 27)) (.cells #[.int .i64 z, .slice a' l.length c'] 27))
  go_enter Try.func45, Try.ntmps45
  go_wp2_with fail
  refine (sameInts_ok l a a' c c' _ HN.out (HL.out.below B0.out) (HL'.out.below B0.out)).mono ?_
  rintro e w1 ⟨rfl, hb⟩
  have B1 := mkHid (below_step B0.out hb)
  clear hb
  go_wp2
  go_ret
  exact ⟨rfl, B1.out⟩

set_option maxRecDepth 100000 in
set_option maxHeartbeats 1600000 in
theorem drawClose_any (n cap : Nat) (a : Option Addr) (w : World) (hn : n ≤ 1048576) (hb0 : Bytes w w.heap.size a n) :
    Calls Try.prog 40 #[.slice a n cap] w fun e w' => ∃ (z : Int) (l : List Int) (ao : Option Addr) (cp : Nat), e = .returned (.agg #[.int .i64 z, .slice ao l.length cp]) ∧ z ≤ 20 ∧ l.length ≤ 169 ∧ l.length ≤ cp ∧ OwnI w' w.heap.size (.slice ao l.length cp) l ∧ Below w.heap.size w w' := by
  have HN := mkHid hn
  have HBY := mkHid hb0
  have B0 := mkHid ((Below.refl w.heap.size w).alloc (Nat.le_refl _) (.cells #[.int .i64 0, .slice none 0 0] 27))
  have Z0 := mkHid (Fz.new w)
  clear hn hb0
  go_enter Try.func40, Try.ntmps40
  go_wp2_with fail
  refine (openC_any n cap a _ HN.out (HBY.out.up B0.out.size B0.out)).mono ?_
  rintro e w1 ⟨cb, rfl, hcb, hC, hb⟩
  have l0 := Z0.out.lt
  have C1 := mkHid (hC.less (bud' := 1000 + 210) (by omega))
  have B1 := mkHid (below_step B0.out hb)
  have Z1 := mkHid (Z0.out.below hb)
  have hcw : w.heap.size < cb := by omega
  clear hC hb hcb l0 B0 Z0
  go_wp2_with fail
  refine (draw_any cb n cap 1000 a _ C1.out).mono ?_
  rintro e w3 ⟨z, l, ao, cp, rfl, hz, hl, hcp, ho, hC, hG⟩
  have Z3 := Z1.out.grown hG (some_ne (by omega))
  have sz2 := Z1.out.lt
  have HB3 := B1.out.grown hG B1.out.size (fun q hq => by cases hq; omega)
  obtain ⟨⟨z0, z1⟩, z2, z3⟩ := Z3
  have HO := mkHid (fun u0 u1 => ((ho.mono (base' := w.heap.size) (by omega)).grown (grown_setCell _ ⟨w.heap.size, 0, none⟩ u0) (fun q' hq' => some_ne (by have := ho.lt hq'; show w.heap.size ≠ q'; omega))).grown (grown_setCell _ ⟨w.heap.size, 1, none⟩ u1) (fun q' hq' => some_ne (by have := ho.lt hq'; show w.heap.size ≠ q'; omega)))
  have HBB := mkHid (fun u0 u1 => (HB3.setCell (p := ⟨w.heap.size, 0, none⟩) (Nat.le_refl _) u0).setCell (p := ⟨w.heap.size, 1, none⟩) (Nat.le_refl _) u1)
  have HB := mkHid (And.intro hz (And.intro hl hcp))
  clear ho hC hG hz hl hcp HB3
  go_wp2
  exact bodyPost_ret (v := .agg #[.int .i64 z, .slice ao l.length cp]) (by simp [results, Try.results40, go_sem, z0, z1]) rfl ⟨z, l, ao, cp, rfl, HB.out.1, HB.out.2.1, HB.out.2.2, HO.out _ _, HBB.out _ _⟩
end Go.Proofs.Ytmaejdomlggopaa
namespace Go.Proofs.Ytmaejdomlggopaa
open Go.RowKit

theorem Cal.grew {w0 v v' : World} {al st : Bool} {X : Nat} {sa : Option Addr} {sc sc' : Nat} {rz : Int} {rl : List Int} {g0 g : Nat} (h : Cal w0 false al st X sa sc rz rl v) (hg : v.grownBy v' (some g0)) (hg0 : w0.heap.size ≤ g0) (hx : al = true → X ≠ g0) (ho : OwnI v' w0.heap.size (.slice (some ⟨g, 0, none⟩) rl.length sc') rl) (hgg : g = g0 ∨ g = v.heap.size) : Cal w0 true al st X (some ⟨g, 0, none⟩) sc' rz rl v' := by
  have e : st = false := by cases hs : st; rfl; exact absurd (h.sf hs).1 (by decide)
  subst e
  refine ⟨h.bel.grown hg h.bel.size (fun q hq => by cases hq; exact hg0), fun e => (by cases e), fun _ => ho, fun e => ⟨(h.box e).1, fun e2 => ((h.box e).2.1 e2).grown hg (some_ne (hx e)), fun e2 => (by cases e2)⟩, fun _ e q hq => ?_⟩
  have e2 : g = q := Option.some.inj hq
  have h1 := ((h.box e).2.1 rfl).lt
  have h2 := hx e
  omega
theorem mk_wid {n : Nat} {f g : Tab} {st : List Int} {i j : Nat} (hi : i < n) (hj : j < n) : (mk n (widP n f g st (i * n + j))).set (i * n + j) (widT f g st i j) = mk n (widP n f g st (i * n + j + 1)) := by
  rw [mk_set _ hi hj]
  exact mk_congr (fun a b _ hb => widP_next hj hb)
theorem mk_same {n : Nat} {f g : Tab} {st : List Int} {i j : Nat} (hj : j < n) (h : ¬ f i j < g i j) : mk n (widP n f g st (i * n + j)) = mk n (widP n f g st (i * n + j + 1)) := by
  refine mk_congr (fun a b _ hb => ?_)
  rw [← widP_next hj hb]
  split
  · rename_i e
    obtain ⟨rfl, rfl⟩ := e
    rw [widP_at]
    unfold widT
    rw [if_neg h]
  · rfl
set_option maxRecDepth 100000 in
set_option maxHeartbeats 6400000 in
theorem sWiden_any (z : Int) (l : List Int) (a : Option Addr) (c : Nat) (z' : Int) (l' : List Int) (a' : Option Addr) (c' : Nat) (st : List Int) (gs cs : Nat) (w : World) (hstm : st.length ≤ maxLen) (hl : IntsAt w a l) (hl' : IntsAt w a' l') (hst : IntsIn w st gs 0) : Calls Try.prog 22 #[.agg #[.int .i64 z, .slice a l.length c], .agg #[.int .i64 z', .slice a' l'.length c'], .slice (some ⟨gs, 0, none⟩) st.length cs] w fun e w' => Gives w w' e (widR z l z' l' st).1 (widR z l z' l' st).2 := by
  have HST := mkHid hst
  have HSM := mkHid hstm
  have HL := mkHid hl
  have HL' := mkHid hl'
  have B0 := mkHid ((((Below.refl w.heap.size w).alloc (Nat.le_refl _) (.cells #[.int .i64 z, .slice a l.length c] 27)).alloc (by simp) (.cells #[.int .i64 z', .slice a' l'.length c'] 27)).alloc (by simp; omega) (.cells #[.int .i64 0, .slice none 0 0] 27))
  have T0 : Hid (Fc (((w.alloc (.cells #[.int .i64 z, .slice a l.length c] 27)).alloc (.cells #[.int .i64 z', .slice a' l'.length c'] 27)).alloc (.cells #[.int .i64 0, .slice none 0 0] 27)) w.heap.size z a l.length c) := mkHid (((Fc.new w z a l.length c 27).alloc _).alloc _)
  have U0 : Hid (Fc (((w.alloc (.cells #[.int .i64 z, .slice a l.length c] 27)).alloc (.cells #[.int .i64 z', .slice a' l'.length c'] 27)).alloc (.cells #[.int .i64 0, .slice none 0 0] 27)) (w.heap.size + 1) z' a' l'.length c') := mkHid (by have := (Fc.new (w.alloc (.cells #[.int .i64 z, .slice a l.length c] 27)) z' a' l'.length c' 27).alloc (.cells #[.int .i64 0, .slice none 0 0] 27); simpa using this)
  have Z0 : Hid (Fz (((w.alloc (.cells #[.int .i64 z, .slice a l.length c] 27)).alloc (.cells #[.int .i64 z', .slice a' l'.length c'] 27)).alloc (.cells #[.int .i64 0, .slice none 0 0] 27)) (w.heap.size + 2)) := mkHid (by have := Fz.new ((w.alloc (.cells #[.int .i64 z, .slice a l.length c] 27)).alloc (.cells #[.int .i64 z', .slice a' l'.length c'] 27)); simpa using this)
  have HCB : Hid (∀ v, IntsAt v a' l' → Calls Try.prog 51 #[.agg #[.int .i64 z', .slice a' l'.length c']] v fun e w' => Gives v w' e (outZ (cF z' l') z'.toNat) (outL (cF z' l') z'.toNat)) := mkHid fun v hv => sClose_any z' l' a' c' v hv
  have HNA : Hid (∀ v, Calls Try.prog 52 #[.agg #[.int .i64 z, .slice a l.length c]] v fun e w' => e = .returned (.bool (noF z l)) ∧ Below v.heap.size v w') := mkHid fun v => by rw [← noN_eq]; exact sNoF_any z a l.length c v
  obtain ⟨zy, hzy⟩ : ∃ x, outZ (cF z' l') z'.toNat = x := ⟨_, rfl⟩
  obtain ⟨ly, hly⟩ : ∃ x, outL (cF z' l') z'.toNat = x := ⟨_, rfl⟩
  rw [hzy, hly] at HCB
  have HZY := mkHid hzy
  have HLY := mkHid hly
  have HFB := mkHid (cF_fine z' l')
  clear hl hl' hzy hly hst hstm
  go_enter Try.func22, Try.ntmps22
  go_wp2_with fail
  refine (sPair_any z l a c z' l' a' c' _ (HL.out.below B0.out) (HL'.out.below B0.out)).mono ?_
  rintro e w3 ⟨rfl, hb⟩
  have B3 := mkHid (below_step B0.out hb)
  have T3 := mkHid (T0.out.below hb)
  have U3 := mkHid (U0.out.below hb)
  have Z3 := mkHid (Z0.out.below hb)
  clear hb B0 T0 U0 Z0
  cases hgo : goB z l z' l'
  · have e1 : Hid (widR z l z' l' st = (0, [])) := mkHid (widR_no (by rw [hgo]; rfl))
    obtain ⟨⟨z0, z1⟩, z2, z3⟩ := Z3.out
    go_wp2
    refine bodyPost_ret (v := .agg #[.int .i64 0, .slice none 0 0]) (by simp [results, Try.results22, go_sem, z0, z1]) rfl ?_
    rw [e1.out]
    exact ⟨none, 0, rfl, OwnI.nil _ _, none_shut B3.out (by omega) _ _⟩
  · have HGO := mkHid hgo
    clear hgo
    go_wp2_with fail
    refine (sSteps_of st gs 0 cs _ HSM.out (HST.out.below B3.out)).mono ?_
    rintro e w4 ⟨rfl, hb⟩
    have B4 := mkHid (below_step B3.out hb)
    have T4 := mkHid (T3.out.below hb)
    have U4 := mkHid (U3.out.below hb)
    have Z4 := mkHid (Z3.out.below hb)
    clear hb B3 T3 U3 Z3
    cases hso : stepsB st
    · have e1 : Hid (widR z l z' l' st = (0, [])) := mkHid (widR_no (by rw [hso]; simp))
      obtain ⟨⟨z0, z1⟩, z2, z3⟩ := Z4.out
      go_wp2
      refine bodyPost_ret (v := .agg #[.int .i64 0, .slice none 0 0]) (by simp [results, Try.results22, go_sem, z0, z1]) rfl ?_
      rw [e1.out]
      exact ⟨none, 0, rfl, OwnI.nil _ _, none_shut B4.out (by omega) _ _⟩
    · have HSO := mkHid hso
      obtain ⟨u0, u1⟩ := U4.out
      have s4 := Z4.out.lt
      clear hso
      go_wp2_with fail
      refine (HCB.out _ (HL'.out.below B4.out)).mono ?_
      rintro e w6 ⟨ya, yc, rfl, yo, hb6⟩
      obtain ⟨by1, hby⟩ : ∃ b, w6.heap.size = b := ⟨_, rfl⟩
      have A6 := (Below.refl w6.heap.size w6).alloc (Nat.le_refl _) (.cells #[.int .i64 zy, .slice ya ly.length yc] 27)
      have Y6 := mkHid (Fc.new w6 zy ya ly.length yc 27)
      rw [hby] at Y6
      have B6 := mkHid (below_step (below_step B4.out hb6) A6)
      have C6 := mkHid (below_step hb6 A6)
      have P6 := mkHid (yo.below A6)
      have T6 := mkHid ((T4.out.below hb6).below A6)
      have Z6 := mkHid ((Z4.out.below hb6).below A6)
      have hy6 : w.heap.size + 2 < by1 := by have := hb6.size; omega
      clear hb6 A6 yo u0 u1 T4 U4
      obtain ⟨t0, t1⟩ := T6.out
      obtain ⟨wy, hwy⟩ : ∃ wy, w4 = wy := ⟨_, rfl⟩
      rw [hwy] at B4 Z4 C6 P6
      go_wp2_with fail
      refine (HNA.out _).mono ?_
      rintro e w8 ⟨rfl, hb8⟩
      have B8 := mkHid (below_step B6.out hb8)
      have C8 := mkHid (below_step C6.out hb8)
      have P8 := mkHid (P6.out.below hb8)
      have Y8 := mkHid (Y6.out.below hb8)
      have T8 := mkHid (T6.out.below hb8)
      have Z8 := mkHid (Z6.out.below hb8)
      clear hb8 B6 C6 P6 Y6 T6 Z6 t0 t1 hby hwy
      cases hn1 : noF z l with
      | true =>
        have e1 : Hid (widR z l z' l' st = (zy, ly)) := mkHid (by rw [widR_one HGO.out HSO.out hn1, HZY.out, HLY.out])
        obtain ⟨y0, y1⟩ := Y8.out
        obtain ⟨⟨z0, z1⟩, z2, z3⟩ := Z8.out
        have HE := mkHid (fun v0 v1 => Gives.shut (b := w.heap.size + 2) B4.out (by omega) Z4.out.lt P8.out C8.out v0 v1)
        clear hn1
        go_wp2
        refine bodyPost_ret (v := .agg #[.int .i64 zy, .slice ya ly.length yc]) (by simp [results, Try.results22, go_sem, z0, z1]) rfl ?_
        rw [e1.out]
        exact ⟨ya, yc, rfl, (HE.out _ _).1, (HE.out _ _).2⟩
      | false =>
        obtain ⟨n, hzn, h1, h2, h3, hmk, hfine⟩ := ok_of (go_ok1 HGO.out hn1)
        have HN1 := mkHid hn1
        have HFACT := mkHid (show z = (n : Int) ∧ 1 ≤ n ∧ n ≤ 13 ∧ l = mk n (tab n l) ∧ Fine n (tab n l) from ⟨hzn, h1, h2, hmk, hfine⟩)
        have HLP : Hid (0 < l.length ∧ l.length ≤ 169) := mkHid (by rw [h3]; exact ⟨sq_pos h1, sq_le h2⟩)
        obtain ⟨b, o, rfl, c0⟩ := IntsAt.get' HL.out (k := 0) HLP.out.1
        have HLC := mkHid c0
        have HSRC : Hid (∀ v, Below w.heap.size w v → ∀ (j : Nat) (u : Value), (ints l)[j]? = some u → v.cell? ((⟨b, o, none⟩ : Addr).add j) = some u) := mkHid fun v hv j u hu => by
          rcases HL.out.below hv with h0 | ⟨b', o', e, hc⟩
          · rw [h0] at hu; simp [ints] at hu
          · cases e
            rw [ints_get] at hu
            cases hx : l[j]? with
            | none => rw [hx] at hu; cases hu
            | some x => rw [hx] at hu; cases hu; rw [Addr.add_mid]; exact hc j x hx
        obtain ⟨i0, hi, hzz'⟩ := Option.map_eq_some_iff.1 Try.info3
        simp only [Prod.mk.injEq] at hzz'
        obtain ⟨hz0, hz1, hz2⟩ := hzz'
        have HI := mkHid (show Try.prog.info? 3 = some i0 ∧ i0.zero = some (.int .i64 0) ∧ i0.size = 1 ∧ i0.bytes = 8 from ⟨hi, hz0, hz1, hz2⟩)
        have B8k := mkHid B8.out
        clear hn1 hzn h1 h2 h3 hmk hfine hi hz0 hz1 hz2 c0 B4 C8 Z4 s4
        go_wp2_with fail
        refine wp_region_inv2 (fun zA0 L zA v => ∃ (zB : Nat → Bool) (zS : Nat → Value) (g0 : Nat) (sa : Option Addr) (sc : Nat) (X : Nat), L = #[zB 0, zB 1, zB 2, zB 3, zB 4, zB 5, zB 6, zB 7, zB 8] ∧ zA = puts zA0 [(27, zS 27), (28, zS 28), (29, zS 29), (30, zS 30), (31, zS 31), (32, zS 32), (33, zS 33), (8, zS 8)] ∧ ((zB 0 = true → zS 27 = .pointer (some ⟨w.heap.size, 0, none⟩)) ∧ (zB 1 = true → zS 28 = .int .i64 z) ∧ (zB 2 = true → zS 29 = .slice (some ⟨g0, 0, none⟩) 0 0) ∧ (zB 3 = true → zS 30 = .pointer (some ⟨w.heap.size, 1, none⟩)) ∧ (zB 4 = true → zS 31 = .slice (some ⟨b, o, none⟩) l.length c) ∧ (zB 5 = true → zS 32 = .slice sa l.length sc) ∧ (zB 6 = true → zS 33 = .agg #[.int .i64 z, .slice sa l.length sc]) ∧ (zB 7 = true → zS 8 = .pointer (some ⟨X, 0, none⟩))) ∧ Cal w8 (zB 5) (zB 7) (zB 8) X sa sc z l v ∧ ((zB 2) = true → (zB 5) = false → OwnI v w8.heap.size (.slice (some ⟨g0, 0, none⟩) 0 0) [] ∧ w8.heap.size ≤ g0 ∧ ((zB 7) = true → X ≠ g0)) ∧ ((zB 5) = true → ∃ g, sa = some ⟨g, 0, none⟩) ∧ ((zB 6) = true → (zB 5) = true)) (by kernel_rfl) ?_ ?_ ?_
        · exact ⟨fun _ => false, fun _ => undef, 0, none, 0, 0, rfl, by kernel_rfl, ⟨fun e => ft e, fun e => ft e, fun e => ft e, fun e => ft e, fun e => ft e, fun e => ft e, fun e => ft e, fun e => ft e⟩, ⟨Cal.start (Below.refl _ _).drew, fun e => ft e, fun e => ft e, fun e => ft e⟩⟩
        · refine StepsI.cons rfl ?_ ?_
          · rintro L zA v ⟨zB, zS, g0, sa, sc, X, rfl, rfl, hF, hW⟩ hL hm K hK
            have hb0 : zB 0 = false := by simpa using hL
            clear hL hm
            simp only [puts, Act.put, List.setIfInBounds_toArray, List.set_cons_zero, List.set_cons_succ]
            go_simp
            exact hK.out _ _ ⟨fun zj => if zj = 0 then true else zB zj, fun zd => if zd = 27 then .pointer (some ⟨w.heap.size, 0, none⟩) else zS zd, g0, sa, sc, X, rfl, by kernel_rfl, ⟨fun _ => rfl, hF.2.1, hF.2.2.1, hF.2.2.2.1, hF.2.2.2.2.1, hF.2.2.2.2.2.1, hF.2.2.2.2.2.2.1, hF.2.2.2.2.2.2.2⟩, hW⟩
          refine StepsI.cons rfl ?_ ?_
          · rintro L zA v ⟨zB, zS, g0, sa, sc, X, rfl, rfl, hF, hW⟩ hL hm K hK
            have hb1 : zB 1 = false := by simpa using hL
            have hb0 : zB 0 = true := by cases e : zB 0 with | false => (exfalso; revert hm; simp [metB, Region.binds, e]) | true => rfl
            have e0 : zS 27 = .pointer (some ⟨w.heap.size, 0, none⟩) := hF.1 hb0
            clear hL hm
            simp only [puts, Act.put, List.setIfInBounds_toArray, List.set_cons_zero, List.set_cons_succ]
            simp only [e0]
            obtain ⟨q0, q1⟩ := T8.out.below hW.1.bel
            go_simp
            exact hK.out _ _ ⟨fun zj => if zj = 0 then true else if zj = 1 then true else zB zj, fun zd => if zd = 28 then .int .i64 z else if zd = 27 then .pointer (some ⟨w.heap.size, 0, none⟩) else zS zd, g0, sa, sc, X, by simp [hb0], by kernel_rfl, ⟨fun _ => rfl, fun _ => rfl, hF.2.2.1, hF.2.2.2.1, hF.2.2.2.2.1, hF.2.2.2.2.2.1, hF.2.2.2.2.2.2.1, hF.2.2.2.2.2.2.2⟩, hW⟩
          refine StepsI.cons rfl ?_ ?_
          · rintro L zA v ⟨zB, zS, g0, sa, sc, X, rfl, rfl, hF, hW⟩ hL hm K hK
            have hb2 : zB 2 = false := by simpa using hL
            clear hL hm
            rw [hb2] at hW
            simp only [puts, Act.put, List.setIfInBounds_toArray, List.set_cons_zero, List.set_cons_succ]
            obtain ⟨hC, k2, k5, k6⟩ := hW
            have hst : zB 5 = false → zB 8 = false := fun e => by cases h : zB 8 with | false => rfl | true => exact absurd (hC.sf h).1 (by rw [e]; decide)
            go_simp
            exact hK.out _ _ ⟨fun zj => if zj = 2 then true else zB zj, fun zd => if zd = 29 then .slice (some ⟨v.heap.size, 0, none⟩) 0 0 else zS zd, v.heap.size, sa, sc, X, rfl, by kernel_rfl, ⟨hF.1, hF.2.1, fun _ => rfl, hF.2.2.2.1, hF.2.2.2.2.1, hF.2.2.2.2.2.1, hF.2.2.2.2.2.2.1, hF.2.2.2.2.2.2.2⟩, ⟨hC.below ((Below.refl _ _).alloc (Nat.le_refl _) _), fun _ e5 => ⟨OwnI.fresh hC.bel.size (heap_alloc_last v _), hC.bel.size, fun e7 => by have := ((hC.box e7).2.1 (hst e5)).lt; omega⟩, k5, k6⟩⟩
          refine StepsI.cons rfl ?_ ?_
          · rintro L zA v ⟨zB, zS, g0, sa, sc, X, rfl, rfl, hF, hW⟩ hL hm K hK
            have hb3 : zB 3 = false := by simpa using hL
            clear hL hm
            simp only [puts, Act.put, List.setIfInBounds_toArray, List.set_cons_zero, List.set_cons_succ]
            go_simp
            exact hK.out _ _ ⟨fun zj => if zj = 3 then true else zB zj, fun zd => if zd = 30 then .pointer (some ⟨w.heap.size, 1, none⟩) else zS zd, g0, sa, sc, X, rfl, by kernel_rfl, ⟨hF.1, hF.2.1, hF.2.2.1, fun _ => rfl, hF.2.2.2.2.1, hF.2.2.2.2.2.1, hF.2.2.2.2.2.2.1, hF.2.2.2.2.2.2.2⟩, hW⟩
          refine StepsI.cons rfl ?_ ?_
          · rintro L zA v ⟨zB, zS, g0, sa, sc, X, rfl, rfl, hF, hW⟩ hL hm K hK
            have hb4 : zB 4 = false := by simpa using hL
            have hb3 : zB 3 = true := by cases e : zB 3 with | false => (exfalso; revert hm; simp [metB, Region.binds, e]) | true => rfl
            have e3 : zS 30 = .pointer (some ⟨w.heap.size, 1, none⟩) := hF.2.2.2.1 hb3
            clear hL hm
            simp only [puts, Act.put, List.setIfInBounds_toArray, List.set_cons_zero, List.set_cons_succ]
            simp only [e3]
            obtain ⟨q0, q1⟩ := T8.out.below hW.1.bel
            go_simp
            exact hK.out _ _ ⟨fun zj => if zj = 3 then true else if zj = 4 then true else zB zj, fun zd => if zd = 31 then .slice (some ⟨b, o, none⟩) l.length c else if zd = 30 then .pointer (some ⟨w.heap.size, 1, none⟩) else zS zd, g0, sa, sc, X, by simp [hb3], by kernel_rfl, ⟨hF.1, hF.2.1, hF.2.2.1, fun _ => rfl, fun _ => rfl, hF.2.2.2.2.2.1, hF.2.2.2.2.2.2.1, hF.2.2.2.2.2.2.2⟩, hW⟩
          refine StepsI.cons rfl ?_ ?_
          · rintro L zA v ⟨zB, zS, g0, sa, sc, X, rfl, rfl, hF, hW⟩ hL hm K hK
            have hb5 : zB 5 = false := by simpa using hL
            have hb2 : zB 2 = true := by cases e : zB 2 with | false => (exfalso; revert hm; simp [metB, Region.binds, e]) | true => rfl
            have hb4 : zB 4 = true := by cases e : zB 4 with | false => (exfalso; revert hm; simp [metB, Region.binds, e]) | true => rfl
            have e2 : zS 29 = .slice (some ⟨g0, 0, none⟩) 0 0 := hF.2.2.1 hb2
            have e4 : zS 31 = .slice (some ⟨b, o, none⟩) l.length c := hF.2.2.2.2.1 hb4
            clear hL hm
            rw [hb5] at hW
            rw [hb2] at hW
            simp only [puts, Act.put, List.setIfInBounds_toArray, List.set_cons_zero, List.set_cons_succ]
            simp only [e2, e4]
            obtain ⟨hC, k2, k5, k6⟩ := hW
            obtain ⟨k2a, k2b, k2c⟩ := k2 rfl rfl
            rw [if_pos (by rfl)]
            refine wp_append_lies _ _ _ 22 rfl w8.heap.size 3 i0 (.int .i64 0) 1 8 Try.underlying22 HI.out.1 HI.out.2.1 HI.out.2.2.1 HI.out.2.2.2 rfl (by decide) (.slice (some ⟨g0, 0, none⟩) 0 0) 0 [] rfl k2a ⟨b, o, none⟩ l.length c (ints l) rfl (by rw [ints_len]; omega) (HSRC.out _ (below_step B8.out hC.bel)) (one_cell_ints l) HLP.out.1 (by have := HLP.out.2; unfold maxLen; omega) (by have := HLP.out.2; omega) hC.bel.size v.heap.size rfl ?_
            intro g cap v2 hown hgrow hat hlt4
            have hown2 : OwnI v2 w8.heap.size (.slice (some ⟨g, 0, none⟩) l.length cap) l := by unfold OwnI; simpa using hown
            have hgg : g = g0 ∨ g = v.heap.size := hat.imp (fun e => (Option.some.inj e).symm) id
            simp only [Nat.zero_add]
            exact hK.out _ _ ⟨fun zj => if zj = 4 then true else if zj = 2 then true else if zj = 5 then true else zB zj, fun zd => if zd = 32 then .slice (some ⟨g, 0, none⟩) l.length cap else if zd = 31 then .slice (some ⟨b, o, none⟩) l.length c else if zd = 29 then .slice (some ⟨g0, 0, none⟩) 0 0 else zS zd, g0, (some ⟨g, 0, none⟩), cap, X, by simp [hb2, hb4], by kernel_rfl, ⟨hF.1, hF.2.1, fun _ => rfl, hF.2.2.2.1, fun _ => rfl, fun _ => rfl, fun e => ft (k6 e), hF.2.2.2.2.2.2.2⟩, ⟨hC.grew hgrow k2b k2c hown2 hgg, fun _ e => tf e, fun _ => ⟨g, rfl⟩, fun _ => rfl⟩⟩
          refine StepsI.cons rfl ?_ ?_
          · rintro L zA v ⟨zB, zS, g0, sa, sc, X, rfl, rfl, hF, hW⟩ hL hm K hK
            have hb6 : zB 6 = false := by simpa using hL
            have hb1 : zB 1 = true := by cases e : zB 1 with | false => (exfalso; revert hm; simp [metB, Region.binds, e]) | true => rfl
            have hb5 : zB 5 = true := by cases e : zB 5 with | false => (exfalso; revert hm; simp [metB, Region.binds, e]) | true => rfl
            have e1 : zS 28 = .int .i64 z := hF.2.1 hb1
            have e5 : zS 32 = .slice sa l.length sc := hF.2.2.2.2.2.1 hb5
            clear hL hm
            rw [hb6] at hW
            rw [hb5] at hW
            simp only [puts, Act.put, List.setIfInBounds_toArray, List.set_cons_zero, List.set_cons_succ]
            simp only [e1, e5]
            obtain ⟨hC, k2, k5, k6⟩ := hW
            go_simp
            exact hK.out _ _ ⟨fun zj => if zj = 5 then true else if zj = 1 then true else if zj = 6 then true else zB zj, fun zd => if zd = 33 then .agg #[.int .i64 z, .slice sa l.length sc] else if zd = 32 then .slice sa l.length sc else if zd = 28 then .int .i64 z else zS zd, g0, sa, sc, X, by simp [hb1, hb5], by kernel_rfl, ⟨hF.1, fun _ => rfl, hF.2.2.1, hF.2.2.2.1, hF.2.2.2.2.1, fun _ => rfl, fun _ => rfl, hF.2.2.2.2.2.2.2⟩, ⟨hC, k2, k5, fun _ => rfl⟩⟩
          refine StepsI.cons rfl ?_ ?_
          · rintro L zA v ⟨zB, zS, g0, sa, sc, X, rfl, rfl, hF, hW⟩ hL hm K hK
            have hb7 : zB 7 = false := by simpa using hL
            clear hL hm
            rw [hb7] at hW
            simp only [puts, Act.put, List.setIfInBounds_toArray, List.set_cons_zero, List.set_cons_succ]
            obtain ⟨hC, k2, k5, k6⟩ := hW
            go_simp
            exact hK.out _ _ ⟨fun zj => if zj = 7 then true else zB zj, fun zd => if zd = 8 then .pointer (some ⟨v.heap.size, 0, none⟩) else zS zd, g0, sa, sc, v.heap.size, rfl, by kernel_rfl, ⟨hF.1, hF.2.1, hF.2.2.1, hF.2.2.2.1, hF.2.2.2.2.1, hF.2.2.2.2.2.1, hF.2.2.2.2.2.2.1, fun _ => rfl⟩, ⟨hC.alloc, fun e e2 => ⟨(k2 e e2).1.below ((Below.refl _ _).alloc (Nat.le_refl _) _), (k2 e e2).2.1, fun _ => by have := (k2 e e2).1.lt (q := g0) rfl; omega⟩, k5, k6⟩⟩
          refine StepsI.cons rfl ?_ ?_
          · rintro L zA v ⟨zB, zS, g0, sa, sc, X, rfl, rfl, hF, hW⟩ hL hm K hK
            have hb8 : zB 8 = false := by simpa using hL
            have hb5 : zB 5 = true := by cases e : zB 5 with | false => (exfalso; revert hm; simp [metB, Region.binds, e]) | true => rfl
            have hb6 : zB 6 = true := by cases e : zB 6 with | false => (exfalso; revert hm; simp [metB, Region.binds, e]) | true => rfl
            have hb7 : zB 7 = true := by cases e : zB 7 with | false => (exfalso; revert hm; simp [metB, Region.binds, e]) | true => rfl
            have e5 : zS 32 = .slice sa l.length sc := hF.2.2.2.2.2.1 hb5
            have e6 : zS 33 = .agg #[.int .i64 z, .slice sa l.length sc] := hF.2.2.2.2.2.2.1 hb6
            have e7 : zS 8 = .pointer (some ⟨X, 0, none⟩) := hF.2.2.2.2.2.2.2 hb7
            clear hL hm
            rw [hb8] at hW
            rw [hb5] at hW
            rw [hb6] at hW
            rw [hb7] at hW
            simp only [puts, Act.put, List.setIfInBounds_toArray, List.set_cons_zero, List.set_cons_succ]
            simp only [e5, e6, e7]
            obtain ⟨hC, k2, k5, k6⟩ := hW
            obtain ⟨⟨y0, y1⟩, y2, y3⟩ := (hC.box rfl).2.1 rfl
            go_simp
            exact hK.out _ _ ⟨fun zj => if zj = 7 then true else if zj = 6 then true else if zj = 5 then true else if zj = 8 then true else zB zj, fun zd => if zd = 8 then .pointer (some ⟨X, 0, none⟩) else if zd = 33 then .agg #[.int .i64 z, .slice sa l.length sc] else if zd = 32 then .slice sa l.length sc else zS zd, g0, sa, sc, X, by simp [hb5, hb6, hb7], by kernel_rfl, ⟨hF.1, hF.2.1, hF.2.2.1, hF.2.2.2.1, hF.2.2.2.2.1, fun _ => rfl, fun _ => rfl, fun _ => rfl⟩, ⟨hC.store, fun _ e => tf e, fun _ => k5 rfl, fun _ => rfl⟩⟩
          exact StepsI.nil (by kernel_rfl)
        · rintro L zA v ⟨zB, zS, g0, sa, sc, X, rfl, rfl, hF, hW⟩ hr
          have hu := all_up (by kernel_rfl) (N := 9) (by kernel_rfl) hr
          have hb0 : zB 0 = true := by simpa using hu 0 (by decide)
          have hb1 : zB 1 = true := by simpa using hu 1 (by decide)
          have hb2 : zB 2 = true := by simpa using hu 2 (by decide)
          have hb3 : zB 3 = true := by simpa using hu 3 (by decide)
          have hb4 : zB 4 = true := by simpa using hu 4 (by decide)
          have hb5 : zB 5 = true := by simpa using hu 5 (by decide)
          have hb6 : zB 6 = true := by simpa using hu 6 (by decide)
          have hb7 : zB 7 = true := by simpa using hu 7 (by decide)
          have hb8 : zB 8 = true := by simpa using hu 8 (by decide)
          have e0 : zS 27 = .pointer (some ⟨w.heap.size, 0, none⟩) := hF.1 hb0
          have e1 : zS 28 = .int .i64 z := hF.2.1 hb1
          have e2 : zS 29 = .slice (some ⟨g0, 0, none⟩) 0 0 := hF.2.2.1 hb2
          have e3 : zS 30 = .pointer (some ⟨w.heap.size, 1, none⟩) := hF.2.2.2.1 hb3
          have e4 : zS 31 = .slice (some ⟨b, o, none⟩) l.length c := hF.2.2.2.2.1 hb4
          have e5 : zS 32 = .slice sa l.length sc := hF.2.2.2.2.2.1 hb5
          have e6 : zS 33 = .agg #[.int .i64 z, .slice sa l.length sc] := hF.2.2.2.2.2.2.1 hb6
          have e7 : zS 8 = .pointer (some ⟨X, 0, none⟩) := hF.2.2.2.2.2.2.2 hb7
          rw [hb2] at hW
          rw [hb5] at hW
          rw [hb6] at hW
          rw [hb7] at hW
          rw [hb8] at hW
          clear hu hr hF
          simp only [puts, Act.put, List.setIfInBounds_toArray, List.set_cons_zero, List.set_cons_succ]
          simp only [e0, e1, e2, e3, e4, e5, e6, e7]
          clear e0 e1 e2 e3 e4 e5 e6 e7
          clear hb0 hb1 hb2 hb3 hb4 hb5 hb6 hb7 hb8
          clear zB zS
          obtain ⟨hC, -, k5, -⟩ := hW
          obtain ⟨g1, rfl⟩ := k5 rfl
          obtain ⟨hbel, hX0, hXf, hXo, hXn⟩ := hC.all
          have B9 := mkHid (below_step B8.out hbel)
          have T9 := mkHid (T8.out.below hbel)
          have Z9 := mkHid (Z8.out.below hbel)
          have Y9 := mkHid (Y8.out.below hbel)
          have P9 := mkHid (P8.out.below hbel)
          have X9 := mkHid hXf
          have O9 := mkHid hXo
          have hXg : X ≠ g1 := hXn g1 rfl
          have hg1 : w8.heap.size ≤ g1 := (hXo.lt (q := g1) rfl).1
          have PN : Hid (∀ q', Value.ownBlock (.slice ya ly.length yc) = some q' → g1 ≠ q') := mkHid fun q' hq' => by have := (P8.out.lt hq').2; omega
          have ly8 := Y8.out.lt
          have lz8 := Z8.out.lt
          have lt8 := T8.out.lt
          clear hC hXf hXo hXn B8 T8 Y8 P8 k5
          obtain ⟨y0, y1⟩ := Y9.out
          have C9 := mkHid hbel
          go_wp2_with fail
          refine (sNoF_any zy ya ly.length yc _).mono ?_
          rintro e wa ⟨rfl, hba⟩
          have Ba := mkHid (below_step B9.out hba)
          have Ta := mkHid (T9.out.below hba)
          have Za := mkHid (Z9.out.below hba)
          have Ya := mkHid (Y9.out.below hba)
          have Pa := mkHid (P9.out.below hba)
          have Xa := mkHid (X9.out.below hba)
          have Oa := mkHid (O9.out.below hba)
          have Ca := mkHid (below_step C9.out hba)
          clear hba B9 T9 Z9 Y9 P9 X9 O9 C9 y0 y1
          cases hc2 : cF z' l' with
          | none =>
            have e1 : Hid (widR z l z' l' st = (z, l)) := mkHid (widR_other HGO.out HSO.out HN1.out hc2)
            have hno : noN zy ly.length = true := by rw [← HZY.out, ← HLY.out, hc2]; rfl
            rw [hno]
            obtain ⟨x0, x1⟩ := Xa.out
            obtain ⟨⟨z0, z1⟩, z2, z3⟩ := Za.out
            have HE := mkHid (fun v0 v1 => Gives.shut (b := w.heap.size + 2) B8k.out (by omega) Z8.out.lt Oa.out Ca.out v0 v1)
            clear hno hc2
            go_wp2
            refine bodyPost_ret (v := .agg #[.int .i64 z, .slice (some ⟨g1, 0, none⟩) l.length sc]) (by simp [results, Try.results22, go_sem, z0, z1]) rfl ?_
            rw [e1.out]
            exact ⟨_, _, rfl, (HE.out _ _).1, (HE.out _ _).2⟩
          | some gg =>
            obtain ⟨k1, k2, k3⟩ := HFB.out gg hc2
            have hno : noN zy ly.length = false := by
              rw [← HZY.out, hc2]
              unfold noN
              rw [decide_eq_false (fun e => by have := e.1; simp [outZ] at this; omega)]
            rw [hno]
            have hzz := go_same1 HGO.out HN1.out hc2
            obtain ⟨hzn, h1, h2, hmk, hfine⟩ := HFACT.out
            have hto : z.toNat = n := by rw [hzn, Int.toNat_natCast]
            have e1 : Hid (widR z l z' l' st = (z, mk n (widT (tab n l) gg st))) := mkHid (by rw [widR_both HGO.out HSO.out HN1.out hc2, hto])
            have ely : ly = mk n gg := by rw [← HLY.out, hc2, ← hzz, hto]; rfl
            obtain ⟨F, hF⟩ : ∃ F, tab n l = F := ⟨_, rfl⟩
            rw [hF] at e1 hmk hfine
            have hll : l.length = n * n := by rw [hmk, mk_len]
            have hll' : ly.length = n * n := by rw [ely, mk_len]
            have hsq := sq_le h2
            rw [hll] at Oa Xa Ta
            rw [hll'] at Pa Ya PN
            have HSTV : Hid (valsB st = true ∧ st.length ≤ 20) := mkHid (by
              have := HSO.out
              unfold stepsB at this
              rw [Bool.and_eq_true, Bool.and_eq_true] at this
              exact ⟨this.2.1, of_decide_eq_true this.1⟩)
            have O0 : Hid (OwnI wa w8.heap.size (.slice (some ⟨g1, 0, none⟩) (n * n) sc) (mk n (widP n F gg st 0))) := mkHid (by rw [widP_zero, ← hmk]; exact Oa.out)
            have HLM : Hid (l = mk n F) := mkHid hmk
            have P0 : Hid (OwnI wa wy.heap.size (.slice ya (n * n) yc) (mk n gg)) := mkHid (by rw [← ely]; exact Pa.out)
            rw [hzn] at Xa Ta
            have HALL : Hid (mk n (widP n F gg st (n * n)) = mk n (widT F gg st)) := mkHid (mk_congr (fun a b ha hb => widP_all ha hb))
            have hn13 : n ≤ 13 := h2
            rw [← hzz, hto] at k3
            have HGF := mkHid k3.bd
            have HZN := mkHid hzn
            obtain ⟨s, hs⟩ : ∃ s, n * n = s := ⟨_, rfl⟩
            rw [hs] at O0 P0 Xa Ta Ya PN HALL hsq
            have HS2 := mkHid hs
            have hyb : by1 ≠ g1 := by omega
            have htg : w.heap.size ≠ g1 := by omega
            have hzg : w.heap.size + 2 ≠ g1 := by omega
            have hgw : w.heap.size ≤ g1 := by omega
            clear hno hc2 hzz hto ely hF hmk hfine hll hll' k1 k2 k3 Oa Pa HFACT HN1 hzn h1 h2 hs
            have t00 := Ta.out.1
            go_wp2_with fail
            go_loopg [9] n (fun gh q wr => ∃ i : Nat, i + gh = n ∧ q = .int .i64 i ∧ OwnI wr w8.heap.size (.slice (some ⟨g1, 0, none⟩) s sc) (mk n (widP n F gg st (i * n))) ∧ Fc wr X n (some ⟨g1, 0, none⟩) s sc ∧ OwnI wr wy.heap.size (.slice ya s yc) (mk n gg) ∧ Fc wr by1 zy ya s yc ∧ Fc wr w.heap.size n (some ⟨b, o, none⟩) s c ∧ Fz wr (w.heap.size + 2) ∧ Below w.heap.size w wr ∧ Below w8.heap.size w8 wr)
            case atStart => exact ⟨0, by omega, rfl, by rw [Nat.zero_mul]; exact O0.out, Xa.out, P0.out, Ya.out, Ta.out, Za.out, Ba.out, Ca.out⟩
            case round =>
              obtain ⟨i, hig, rfl, h_1, h_2, h_3, h_4, h_5, h_6, h_7, h_8⟩ := hrel
              have N1 := mkHid h_1
              have N2 := mkHid h_2
              have N3 := mkHid h_3
              have N4 := mkHid h_4
              have N5 := mkHid h_5
              have N6 := mkHid h_6
              have N7 := mkHid h_7
              have N8 := mkHid h_8
              clear h_1 h_2 h_3 h_4 h_5 h_6 h_7 h_8 O0 Xa P0 Ya Ta Za Ba Ca t00
              have t00 := N5.out.1
              cases gk with
              | zero =>
                have hlt : ¬ ((i : Int) < (n : Int)) := by omega
                have e : i = n := by omega
                subst e
                obtain ⟨x0, x1⟩ := N2.out
                obtain ⟨⟨z0, z1⟩, z2, z3⟩ := N6.out
                have hs2 := HS2.out
                have NF : Hid (OwnI wr w8.heap.size (.slice (some ⟨g1, 0, none⟩) (mk i (widT F gg st)).length sc) (mk i (widT F gg st))) := mkHid (by rw [mk_len, hs2, ← HALL.out, ← hs2]; rw [hs2]; have := N1.out; rw [hs2] at this; exact this)
                have HE := mkHid (fun v0 v1 => Gives.shut (b := w.heap.size + 2) B8k.out (by omega) Z8.out.lt NF.out N8.out v0 v1)
                clear hs2
                go_wp2
                refine bodyPost_ret (v := .agg #[.int .i64 i, .slice (some ⟨g1, 0, none⟩) s sc]) (by simp [results, Try.results22, go_sem, z0, z1]) rfl ?_
                rw [e1.out]
                refine ⟨some ⟨g1, 0, none⟩, sc, ?_, (HE.out _ _).1, (HE.out _ _).2⟩
                show _ = Ending.returned (.agg #[.int .i64 z, .slice (some ⟨g1, 0, none⟩) (mk i (widT F gg st)).length sc])
                rw [mk_len, HS2.out, HZN.out]
              | succ gh =>
                have hlt : (i : Int) < (n : Int) := by omega
                go_wp2_with fail
                go_loopg [10] n (fun g2 q wr => ∃ j : Nat, j + g2 = n ∧ q = .int .i64 j ∧ OwnI wr w8.heap.size (.slice (some ⟨g1, 0, none⟩) s sc) (mk n (widP n F gg st (i * n + j))) ∧ Fc wr X n (some ⟨g1, 0, none⟩) s sc ∧ OwnI wr wy.heap.size (.slice ya s yc) (mk n gg) ∧ Fc wr by1 zy ya s yc ∧ Fc wr w.heap.size n (some ⟨b, o, none⟩) s c ∧ Fz wr (w.heap.size + 2) ∧ Below w.heap.size w wr ∧ Below w8.heap.size w8 wr)
                case atStart => exact ⟨0, by omega, rfl, N1.out, N2.out, N3.out, N4.out, N5.out, N6.out, N7.out, N8.out⟩
                case round =>
                  obtain ⟨j, hjg, rfl, h_1, h_2, h_3, h_4, h_5, h_6, h_7, h_8⟩ := hrel
                  have M1 := mkHid h_1
                  have M2 := mkHid h_2
                  have M3 := mkHid h_3
                  have M4 := mkHid h_4
                  have M5 := mkHid h_5
                  have M6 := mkHid h_6
                  have M7 := mkHid h_7
                  have M8 := mkHid h_8
                  clear h_1 h_2 h_3 h_4 h_5 h_6 h_7 h_8 N1 N2 N3 N4 N5 N6 N7 N8 t00
                  have t00 := M5.out.1
                  cases gk with
                  | zero =>
                    have hlt2 : ¬ ((j : Int) < (n : Int)) := by omega
                    have e : j = n := by omega
                    subst e
                    go_wp2
                    go_roundg gh
                    case measure => omega
                    case rel => exact ⟨i + 1, by omega, by go_num, by rw [Nat.succ_mul]; exact M1.out, M2.out, M3.out, M4.out, M5.out, M6.out, M7.out, M8.out⟩
                  | succ g2 =>
                    have hlt2 : (j : Int) < (n : Int) := by omega
                    have hi : i < n := by omega
                    have hj : j < n := by omega
                    have hks : i * n + j < s := by rw [← HS2.out]; exact idx_lt hi hj
                    have t01 := M5.out.2
                    have y01 := M4.out.2
                    have x01 := M2.out.2
                    have hm1 : IntKind.i64.wrap ((i : Int) * (n : Int)) = ((i * n : Nat) : Int) := by rw [Int.natCast_mul]; refine IntWalk.i64_in _ ?_; rw [← Int.natCast_mul]; omega
                    have hm2 : IntKind.i64.wrap (((i * n : Nat) : Int) + (j : Int)) = ((i * n + j : Nat) : Int) := by rw [Int.natCast_add]; refine IntWalk.i64_in _ ?_; omega
                    obtain ⟨yb, yo, rfl, cy⟩ := IntsAt.get' M3.out.at (k := i * n + j) (by rw [mk_len, HS2.out]; exact hks)
                    have ca : wr.cell? ⟨b, o + (i * n + j), none⟩ = some (.int .i64 (F i j)) := by
                      have h := HL.out.below M7.out
                      rw [HLM.out] at h
                      obtain ⟨b2, o2, e2, c2⟩ := IntsAt.get' h (k := i * n + j) (by rw [mk_len, HS2.out]; exact hks)
                      cases e2
                      rw [mk_V n F i j hi hj] at c2
                      exact c2
                    rw [mk_V n gg i j hi hj] at cy
                    have co := M1.out.cell (p := i * n + j) (by rw [mk_len, HS2.out]; exact hks)
                    have fo := M1.out.free (i * n + j)
                    have bg := HGF.out i j hi hj
                    have GRO := M1.out
                    by_cases hgt : gg i j > F i j
                    · have HNX : Hid ((mk n (widP n F gg st (i * n + j))).set (i * n + j) (stepM (gg i j) (capT i j) st) = mk n (widP n F gg st (i * n + j + 1))) := mkHid (by
                        have := mk_wid (f := F) (g := gg) (st := st) hi hj
                        rw [show widT F gg st i j = stepM (gg i j) (capT i j) st from if_pos hgt] at this
                        exact this)
                      have K0 := (M1.out.stored (i * n + j) (stepM (gg i j) (capT i j) st)).1
                      rw [HNX.out] at K0
                      obtain ⟨x, hx⟩ : ∃ x, F i j = x := ⟨_, rfl⟩
                      obtain ⟨y, hy⟩ : ∃ y, gg i j = y := ⟨_, rfl⟩
                      rw [hx] at ca hgt
                      rw [hy] at cy hgt HNX K0
                      obtain ⟨k, hk⟩ : ∃ k, i * n + j = k := ⟨_, rfl⟩
                      rw [hk] at hm2 cy ca co fo K0 hks
                      obtain ⟨k', hk'⟩ : ∃ k', i * n = k' := ⟨_, rfl⟩
                      rw [hk'] at hm1 hm2
                      have hks2 : (k : Int) < (s : Int) := by omega
                      have HK := mkHid hk
                      have gr := grown_setCell wr ⟨g1, k, none⟩ (.int .i64 (stepM y (capT i j) st))
                      have K1 := mkHid (K0.below (Below.refl _ _).drew.drew)
                      have K2 := mkHid ((M2.out.grown gr (some_ne hXg)).below (Below.refl _ _).drew.drew)
                      have K3 := mkHid ((M3.out.grown gr (fun q hq => some_ne (by show g1 ≠ q; exact PN.out q hq))).below (Below.refl _ _).drew.drew)
                      have K4 := mkHid ((M4.out.grown gr (some_ne hyb)).below (Below.refl _ _).drew.drew)
                      have K5 := mkHid ((M5.out.grown gr (some_ne htg)).below (Below.refl _ _).drew.drew)
                      have K6 := mkHid ((M6.out.grown gr (some_ne hzg)).below (Below.refl _ _).drew.drew)
                      have K7 := mkHid (below_step (M7.out.grown gr M7.out.size (fun q hq => by cases hq; exact hgw)) (Below.refl _ _).drew.drew)
                      have K8 := mkHid (below_step (M8.out.grown gr M8.out.size (fun q hq => by cases hq; exact hg1)) (Below.refl _ _).drew.drew)
                      have HSTP : Hid (IntsAt wr (some ⟨gs, 0, none⟩) st) := mkHid (HST.out.below M7.out).at
                      have hgy : g1 ≠ yb := PN.out yb rfl
                      have hgb : g1 ≠ b := by have := World.block_lt_of_cell? w _ (HLC.out); have h3 : b < w.heap.size := this; omega
                      have HSS : Hid (∀ u, (wr.setCell ⟨g1, k, none⟩ u).cell? ⟨X, 1, none⟩ = some (.slice (some ⟨g1, 0, none⟩) s sc) ∧ (wr.setCell ⟨g1, k, none⟩ u).cell? ⟨by1, 1, none⟩ = some (.slice (some ⟨yb, yo, none⟩) s yc) ∧ (wr.setCell ⟨g1, k, none⟩ u).cell? ⟨yb, yo + k, none⟩ = some (.int .i64 y)) := mkHid fun u => ⟨by rw [World.cell?_setCell_far _ _ _ _ (fun e => hXg e.symm)]; exact x01, by rw [World.cell?_setCell_far _ _ _ _ (fun e => hyb e.symm)]; exact y01, by rw [World.cell?_setCell_far _ _ _ _ hgy]; exact cy⟩
                      clear hx hy hk hk' gr K0 bg GRO M1 M2 M3 M4 M5 M6 M7 M8
                      go_wp2_with fail
                      go_region_held3 (fun v => v.cell? ⟨by1, 1, none⟩ = some (.slice (some ⟨yb, yo, none⟩) s yc) ∧ v.cell? ⟨w.heap.size, 1, none⟩ = some (.slice (some ⟨b, o, none⟩) s c) ∧ v.cell? ⟨yb, yo + k, none⟩ = some (.int .i64 y) ∧ v.cell? ⟨b, o + k, none⟩ = some (.int .i64 x))
                        (first | exact ⟨y01, t01, cy, ca⟩)
                        (fail)
                      go_wp2_with fail
                      go_region_held3 (fun v => v.cell? ⟨X, 1, none⟩ = some (.slice (some ⟨g1, 0, none⟩) s sc) ∧ v.cell? ⟨by1, 1, none⟩ = some (.slice (some ⟨yb, yo, none⟩) s yc) ∧ v.cell? ⟨yb, yo + k, none⟩ = some (.int .i64 y))
                        (first | exact ⟨x01, y01, cy⟩ | exact HSS.out _)
                        (first | (go_at_call 64; refine (sCap_any i j _).mono ?_; rintro e w' ⟨rfl, rfl⟩) | (go_at_call 63; refine (sStep_any y (capT i j) st _ _ _ HSTV.out.1 HSTV.out.2 (HSTP.out.below (Below.refl _ _).drew.drew)).mono ?_; rintro e w' ⟨rfl, rfl⟩))
                      clear x01 y01 t01 cy ca co fo HSS
                      go_wp2
                      go_roundg g2
                      case measure => omega
                      case rel => exact ⟨j + 1, by omega, by go_num, by rw [show i * n + (j + 1) = k + 1 by have := HK.out; omega]; exact K1.out, K2.out, K3.out, K4.out, K5.out, K6.out, K7.out, K8.out⟩
                    · have HNX : Hid (mk n (widP n F gg st (i * n + j)) = mk n (widP n F gg st (i * n + j + 1))) := mkHid (mk_same hj (by omega))
                      have K1 := mkHid (M1.out.below (Below.refl _ _).drew)
                      rw [HNX.out] at K1
                      have K2 := mkHid (M2.out.below (Below.refl _ _).drew)
                      have K3 := mkHid (M3.out.below (Below.refl _ _).drew)
                      have K4 := mkHid (M4.out.below (Below.refl _ _).drew)
                      have K5 := mkHid (M5.out.below (Below.refl _ _).drew)
                      have K6 := mkHid (M6.out.below (Below.refl _ _).drew)
                      have K7 := mkHid M7.out.drew
                      have K8 := mkHid M8.out.drew
                      obtain ⟨x, hx⟩ : ∃ x, F i j = x := ⟨_, rfl⟩
                      obtain ⟨y, hy⟩ : ∃ y, gg i j = y := ⟨_, rfl⟩
                      rw [hx] at ca hgt
                      rw [hy] at cy hgt
                      obtain ⟨k, hk⟩ : ∃ k, i * n + j = k := ⟨_, rfl⟩
                      rw [hk] at hm2 cy ca hks
                      obtain ⟨k', hk'⟩ : ∃ k', i * n = k' := ⟨_, rfl⟩
                      rw [hk'] at hm1 hm2
                      have hks2 : (k : Int) < (s : Int) := by omega
                      clear hx hy hk hk' bg GRO co fo M1 M2 M3 M4 M5 M6 M7 M8
                      go_wp2_with fail
                      go_region_held3 (fun v => v.cell? ⟨by1, 1, none⟩ = some (.slice (some ⟨yb, yo, none⟩) s yc) ∧ v.cell? ⟨w.heap.size, 1, none⟩ = some (.slice (some ⟨b, o, none⟩) s c) ∧ v.cell? ⟨yb, yo + k, none⟩ = some (.int .i64 y) ∧ v.cell? ⟨b, o + k, none⟩ = some (.int .i64 x))
                        (first | exact ⟨y01, t01, cy, ca⟩)
                        (fail)
                      clear x01 y01 t01 cy ca
                      go_wp2
                      go_roundg g2
                      case measure => omega
                      case rel => exact ⟨j + 1, by omega, by go_num, K1.out, K2.out, K3.out, K4.out, K5.out, K6.out, K7.out, K8.out⟩
end Go.Proofs.Ytmaejdomlggopaa
namespace Go.Proofs.Ytmaejdomlggopaa
open Go.ChangeShapes Go.WideShapes Go.ChangeAt Go.RowKit Go.Joins

theorem Fq.stored {W : World} {X : Nat} {z : Int} {a : Option Addr} {n c : Nat} (h : Fq W X z a n c) (z' : Int) (a' : Option Addr) (n' c' : Nat) : Fq ((W.setCell ⟨X, 0, none⟩ (.int .i64 z')).setCell ⟨X, 1, none⟩ (.slice a' n' c')) X z' a' n' c' := by
  obtain ⟨⟨z0, z1⟩, z2, z3⟩ := h
  refine ⟨⟨?_, ?_⟩, ?_, ?_⟩ <;> simp [go_sem, z0, z1, z2, z3]
/-- What the rounds lean on. -/
structure Kr (w : World) (X C n : Nat) (l : List Int) (gl cl : Nat) (ch : List Int) (q cc : Nat) (st : List Int) (gs : Nat) (a : Option Addr) (m : Nat) (v : World) : Prop where
  bel : Below w.heap.size w v
  fF : Fq v X n (some ⟨gl, 0, none⟩) l.length cl
  fL : IntsIn v l gl 0
  fC : OwnI v w.heap.size (.slice (some ⟨C, 0, none⟩) q cc) ch
  fS : IntsIn v st gs 0
  fM : Bytes v w.heap.size a m
  hX : w.heap.size ≤ X
  hC : w.heap.size ≤ C
  xC : X ≠ C
  gX : gl ≠ X
  gC : gl ≠ C
  sX : gs ≠ X
  sC : gs ≠ C
  lg : gl < v.heap.size
  ls : gs < v.heap.size
theorem Kr.below {w : World} {X C n : Nat} {l : List Int} {gl cl : Nat} {ch : List Int} {q cc : Nat} {st : List Int} {gs : Nat} {a : Option Addr} {m : Nat} {v v' : World} (h : Kr w X C n l gl cl ch q cc st gs a m v) (hb : Below v.heap.size v v') : Kr w X C n l gl cl ch q cc st gs a m v' :=
  ⟨below_step h.bel hb, h.fF.below hb, h.fL.below hb, h.fC.below hb, h.fS.below hb, h.fM.up (Nat.le_refl _) ⟨hb.os, hb.tape, hb.output, hb.size, fun k hk => hb.block k (Nat.lt_of_lt_of_le hk h.bel.size)⟩, h.hX, h.hC, h.xC, h.gX, h.gC, h.sX, h.sC, Nat.lt_of_lt_of_le h.lg hb.size, Nat.lt_of_lt_of_le h.ls hb.size⟩
theorem Kr.bytes {w : World} {X C n : Nat} {l : List Int} {gl cl : Nat} {ch : List Int} {q cc : Nat} {st : List Int} {gs : Nat} {a : Option Addr} {m : Nat} {v : World} (h : Kr w X C n l gl cl ch q cc st gs a m v) : Bytes v v.heap.size a m := h.fM.up h.bel.size (Below.refl _ _)
theorem Kr.setC {w : World} {X C n : Nat} {l : List Int} {gl cl : Nat} {ch : List Int} {q cc : Nat} {st : List Int} {gs : Nat} {a : Option Addr} {m : Nat} {v : World} (h : Kr w X C n l gl cl ch q cc st gs a m v) (p : Nat) (y : Int) : Kr w X C n l gl cl (ch.set p y) q cc st gs a m (v.setCell ⟨C, p, none⟩ (.int .i64 y)) := by
  obtain ⟨ho, hg⟩ := h.fC.stored p y
  have hb := (Below.refl w.heap.size v).grown hg h.bel.size (fun k hk => by cases hk; exact h.hC)
  exact ⟨h.bel.grown hg h.bel.size (fun k hk => by cases hk; exact h.hC), h.fF.grown hg (some_ne h.xC), h.fL.grown hg (.inr (some_ne h.gC)), ho, h.fS.grown hg (.inr (some_ne h.sC)), h.fM.up (Nat.le_refl _) hb, h.hX, h.hC, h.xC, h.gX, h.gC, h.sX, h.sC, Nat.lt_of_lt_of_le h.lg hg.size, Nat.lt_of_lt_of_le h.ls hg.size⟩
theorem Kr.setX {w : World} {X C n : Nat} {l : List Int} {gl cl : Nat} {ch : List Int} {q cc : Nat} {st : List Int} {gs : Nat} {a : Option Addr} {m : Nat} {v : World} (h : Kr w X C n l gl cl ch q cc st gs a m v) {l' : List Int} {gl' cl' : Nat} (hl : IntsIn v l' gl' 0) (h1 : gl' ≠ X) (h2 : gl' ≠ C) (h3 : gl' < v.heap.size) : Kr w X C n l' gl' cl' ch q cc st gs a m ((v.setCell ⟨X, 0, none⟩ (.int .i64 n)).setCell ⟨X, 1, none⟩ (.slice (some ⟨gl', 0, none⟩) l'.length cl')) := by
  have hg := put2g v X (.int .i64 n) (.slice (some ⟨gl', 0, none⟩) l'.length cl')
  have hb := (Below.refl w.heap.size v).grown hg h.bel.size (fun k hk => by cases hk; exact h.hX)
  exact ⟨h.bel.grown hg h.bel.size (fun k hk => by cases hk; exact h.hX), h.fF.stored _ _ _ _, hl.grown hg (.inr (some_ne h1)), h.fC.grown hg (fun q hq => by cases hq; exact some_ne h.xC), h.fS.grown hg (.inr (some_ne h.sX)), h.fM.up (Nat.le_refl _) hb, h.hX, h.hC, h.xC, h1, h2, h.sX, h.sC, Nat.lt_of_lt_of_le h3 hg.size, Nat.lt_of_lt_of_le h.ls hg.size⟩
theorem fld (z : Int) (a : Option Addr) (n c : Nat) (w : World) : (Instr.field 27 (.agg #[.int .i64 z, .slice a n c]) 1).run Try.prog w = .ok (.slice a n c) w := by kernel_rfl
/-- What is kept of the numbers of changes. -/
def Cnt (n : Nat) (l ch st : List Int) : Prop := ch.length = n * n ∧ ∀ p, p < n * n → 0 ≤ ch.getD p 0 ∧ ch.getD p 0 + potE st (capT (p / n) (p % n)) (l.getD p 0) ≤ 2 * st.length + 1

/-- The first u numbers are differences. -/
def difP (n : Nat) (v : List Int) (u : Nat) : Tab := fun a b => if a * n + b < u then difT v a b else capT a b
theorem difP_next {n : Nat} {v : List Int} {i j : Nat} (hi : i < n) (hj : j < n) : (mk n (difP n v (i * n + j))).set (i * n + j) (difT v i j) = mk n (difP n v (i * n + j + 1)) := by
  rw [mk_set _ hi hj]
  refine mk_congr (fun a b _ hb => ?_)
  unfold difP
  by_cases h : a = i ∧ b = j
  · obtain ⟨rfl, rfl⟩ := h
    rw [if_pos ⟨rfl, rfl⟩, if_pos (by omega)]
  · rw [if_neg h]
    by_cases h2 : a * n + b < i * n + j
    · rw [if_pos h2, if_pos (by omega)]
    · rw [if_neg h2, if_neg]
      intro h3
      have : a * n + b = i * n + j := by omega
      exact h (idx_inj hb hj this)
theorem difP_zero (n : Nat) (v : List Int) : mk n capT = mk n (difP n v 0) := mk_congr (fun a b _ _ => by unfold difP; rw [if_neg (by omega)])
theorem difP_all (n : Nat) (v : List Int) : mk n (difP n v (n * n)) = mk n (difT v) := mk_congr (fun a b ha hb => by unfold difP; rw [if_pos (idx_lt ha hb)])
/-- The numbers of changes while a round counts them: the first k are counted. -/
def CntM (n : Nat) (l l' ch st : List Int) (k : Nat) : Prop := ch.length = n * n ∧ ∀ p, p < n * n → 0 ≤ ch.getD p 0 ∧ ch.getD p 0 + potE st (capT (p / n) (p % n)) (if p < k then l'.getD p 0 else l.getD p 0) ≤ 2 * st.length + 1
theorem CntM.start {n : Nat} {l l' ch st : List Int} (h : Cnt n l ch st) : CntM n l l' ch st 0 := ⟨h.1, fun p hp => by rw [if_neg (by omega)]; exact h.2 p hp⟩
theorem CntM.done {n : Nat} {l l' ch st : List Int} (h : CntM n l l' ch st (n * n)) : Cnt n l' ch st := ⟨h.1, fun p hp => by have := h.2 p hp; rw [if_pos hp] at this; exact this⟩
theorem CntM.same {n : Nat} {l l' ch st : List Int} {k : Nat} (h : CntM n l l' ch st k) (e : l'.getD k 0 = l.getD k 0) : CntM n l l' ch st (k + 1) := ⟨h.1, fun p hp => by
  have := h.2 p hp
  by_cases q : p < k
  · rw [if_pos q] at this; rw [if_pos (by omega)]; exact this
  · rw [if_neg q] at this
    by_cases r : p = k
    · subst r; rw [if_pos (by omega), e]; exact this
    · rw [if_neg (by omega)]; exact this⟩
theorem CntM.more {n : Nat} {l l' ch st : List Int} {k : Nat} (h : CntM n l l' ch st k) (hk : k < n * n) (e : potE st (capT (k / n) (k % n)) (l'.getD k 0) < potE st (capT (k / n) (k % n)) (l.getD k 0)) : CntM n l l' (ch.set k (ch.getD k 0 + 1)) st (k + 1) := ⟨by rw [List.length_set]; exact h.1, fun p hp => by
  have := h.2 p hp
  have hl := h.1
  by_cases r : p = k
  · subst r
    rw [if_neg (by omega)] at this
    rw [if_pos (by omega), List.getD_eq_getElem?_getD, List.getElem?_set_self (by omega)]
    show 0 ≤ ch.getD p 0 + 1 ∧ ch.getD p 0 + 1 + _ ≤ _
    omega
  · have e2 : (ch.set k (ch.getD k 0 + 1)).getD p 0 = ch.getD p 0 := by rw [List.getD_eq_getElem?_getD, List.getElem?_set_ne (fun q => r q.symm), ← List.getD_eq_getElem?_getD]
    rw [e2]
    by_cases q : p < k
    · rw [if_pos q] at this; rw [if_pos (by omega)]; exact this
    · rw [if_neg q] at this; rw [if_neg (by omega)]; exact this⟩
theorem OwnI.in0 {w : World} {base g n cap : Nat} {l : List Int} (h : OwnI w base (.slice (some ⟨g, 0, none⟩) n cap) l) : IntsIn w l g 0 := by
  rcases h.at with e | ⟨b, o, e, hc⟩
  · subst e; intro i x hx; simp at hx
  · cases e; exact hc
set_option maxRecDepth 100000 in
set_option maxHeartbeats 6400000 in
theorem law_walk (a1 a2 : Option Addr) (n1 c1 n2 c2 : Nat) (w : World) (hn1 : n1 ≤ maxLen) (hn2 : n2 ≤ maxLen) (hb1 : Bytes w w.heap.size a1 n1) (hb2 : Bytes w w.heap.size a2 n2) : Calls Try.prog 11 #[.slice a1 n1 c1, .slice a2 n2 c2] w fun e w' => e = .returned (.bool true) ∧ Below w.heap.size w w' := by
  have HB1 := mkHid hb1
  have HB2 := mkHid hb2
  have HN1 := mkHid hn1
  have HN2 := mkHid hn2
  clear hb1 hb2 hn1 hn2
  by_cases g1 : 1048576 < n1
  · have e1 : decide (1048576 < n1) = true := decide_eq_true g1
    go_enter Try.func11, Try.ntmps11
    go_wp2_with fail
    refine (big_any n1 _ _ _ HN1.out).mono ?_
    rintro e w' ⟨rfl, rfl⟩
    go_wp2
    go_ret
    exact ⟨rfl, Below.refl _ _⟩
  by_cases g2 : 1048576 < n2
  · have e1 : decide (1048576 < n1) = false := decide_eq_false g1
    have e2 : decide (1048576 < n2) = true := decide_eq_true g2
    go_enter Try.func11, Try.ntmps11
    go_wp2_with fail
    refine (big_any n1 _ _ _ HN1.out).mono ?_
    rintro e w' ⟨rfl, rfl⟩
    go_wp2_with fail
    refine (big_any n2 _ _ _ HN2.out).mono ?_
    rintro e w' ⟨rfl, rfl⟩
    go_wp2
    go_ret
    exact ⟨rfl, Below.refl _ _⟩
  have e1 : decide (1048576 < n1) = false := decide_eq_false g1
  have e2 : decide (1048576 < n2) = false := decide_eq_false g2
  have HM2 := mkHid (show n2 ≤ 1048576 by omega)
  have HM1 := mkHid (show n1 ≤ 1048576 by omega)
  clear g1 g2
  go_enter Try.func11, Try.ntmps11
  go_wp2_with fail
  refine (big_any n1 _ _ _ HN1.out).mono ?_
  rintro e w' ⟨rfl, rfl⟩
  go_wp2_with fail
  refine (big_any n2 _ _ _ HN2.out).mono ?_
  rintro e w' ⟨rfl, rfl⟩
  go_wp2_with fail
  refine (drawClose_any n1 c1 a1 w HM1.out HB1.out).mono ?_
  rintro e w1 ⟨z, l, ao, cp, rfl, hz, hl1, hl2, hO, hb⟩
  obtain ⟨X, hX⟩ : ∃ x, w1.heap.size = x := ⟨_, rfl⟩
  have A1 := below_alloc w1 (.cells #[.int .i64 z, .slice ao l.length cp] 27)
  have F1 := mkHid (Fq.new w1 z ao l.length cp)
  have O1 := mkHid (hO.below A1)
  have B1 := mkHid (below_step hb A1)
  have OX : Hid (∀ g, ao = some ⟨g, 0, none⟩ → w.heap.size ≤ g ∧ g < X) := mkHid fun g hg => by subst hg; rw [← hX]; exact hO.base_le
  have HXW := mkHid (show w.heap.size ≤ X by rw [← hX]; exact hb.size)
  have HZ := mkHid hz
  have HLL := mkHid (And.intro hl1 hl2)
  obtain ⟨w2, hw2⟩ : ∃ x, w1.alloc (.cells #[.int .i64 z, .slice ao l.length cp] 27) = x := ⟨_, rfl⟩
  have HXL := mkHid (show X < w2.heap.size by rw [← hw2, ← hX]; simp)
  rw [hw2] at F1 O1 B1
  rw [hX] at F1
  have HW2 := mkHid hw2
  have HX := mkHid hX
  clear hb hO A1 hz hl1 hl2 hw2 hX HB1
  go_wp2_with fail
  rw [HW2.out]
  refine (drawWiden_any n2 c2 a2 w2 HM2.out (HB2.out.up B1.out.size B1.out)).mono ?_
  rintro e w3 ⟨x1, y1, x2, y2, st, gs, cs, rfl, hst, hI, hgs, hb⟩
  have A3 := bl_alloc (bl_alloc (Below.refl w3.heap.size w3) (.cells #[.int .i64 x1, .int .i64 y1] 40)) (.cells #[.int .i64 x2, .int .i64 y2] 40)
  have F3 := mkHid ((F1.out.below hb).below A3)
  have O3 := mkHid ((O1.out.below hb).below A3)
  have B3 := mkHid (below_step (below_step B1.out hb) A3)
  have I3 := mkHid (hI.below A3)
  obtain ⟨w4, hw4⟩ : ∃ x, (w3.alloc (.cells #[.int .i64 x1, .int .i64 y1] 40)).alloc (.cells #[.int .i64 x2, .int .i64 y2] 40) = x := ⟨_, rfl⟩
  have HGS := mkHid (show X < gs ∧ gs < w4.heap.size by have := HXL.out; rw [← hw4]; simp; omega)
  have HST := mkHid hst
  rw [hw4] at F3 O3 B3 I3
  clear hst hI hgs hb A3 F1 O1 B1 HXL HW2
  have HX4 : Hid (X < w4.heap.size) := mkHid F3.out.lt
  rw [HX.out]
  clear HX
  obtain ⟨⟨f0, f1⟩, f2, f3⟩ := F3.out
  go_wp2_with fail
  clear hw4
  refine (sOkF_any z l ao cp w4 O3.out.at).mono ?_
  rintro e w5 ⟨rfl, hb⟩
  have F5 := mkHid (F3.out.below hb)
  have O5 := mkHid (O3.out.below hb)
  have B5 := mkHid (below_step B3.out hb)
  have I5 := mkHid (I3.out.below hb)
  have HG5 := mkHid (show X < gs ∧ gs < w5.heap.size by have := HGS.out; have := hb.size; omega)
  clear hb F3 O3 B3 I3 HGS HX4 f0 f1 f2 f3
  cases hok : okF z l
  · go_wp2
    go_ret
    exact ⟨rfl, B5.out⟩
  obtain ⟨n, rfl, hn1, hn2, hlen, -, -⟩ := ok_of hok
  have HOK := mkHid hok
  have HLEN := mkHid hlen
  clear hok hlen
  obtain ⟨⟨f0, f1⟩, f2, f3⟩ := F5.out
  go_wp2_with fail
  refine (sWiden_any n l ao cp n l ao cp st gs cs w5 (by have := HST.out; unfold maxLen; omega) O5.out.at O5.out.at I5.out).mono ?_
  rintro e w6 ⟨ao6, cp6, rfl, ho6, hb⟩
  have F6 := mkHid (F5.out.below hb)
  have O6 := mkHid (O5.out.below hb)
  have B6 := mkHid (below_step B5.out hb)
  have I6 := mkHid (I5.out.below hb)
  have HG6 := mkHid (show X < gs ∧ gs < w6.heap.size by have := HG5.out; have := hb.size; omega)
  clear hb F5 O5 B5 I5 HG5 f0 f1 f2 f3 ho6
  have hfld := fld (widR n l n l st).1 ao6
  have HWS : Hid ((widR n l n l st).2.length ≠ 0 → stepsB st = true) := mkHid fun h => wid_steps (fun e => h (by rw [e]; rfl))
  obtain ⟨wl, hwl⟩ : ∃ x, (widR n l n l st).2.length = x := ⟨_, rfl⟩
  rw [hwl] at HWS ⊢
  clear hwl
  by_cases he : wl = 0
  · have hb0 : ((wl : Int) == 0) = true := by simp [he]
    clear he
    go_wp2
    go_ret
    exact ⟨rfl, B6.out⟩
  have HSB := mkHid (HWS.out he)
  have hb0 : ((wl : Int) == 0) = false := by rw [beq_eq_false_iff_ne]; omega
  clear he HWS
  have hq1 := sq_pos (n := n) (by omega)
  have hqq := sq_le (n := n) (by omega)
  obtain ⟨gl, rfl⟩ := own_addr O6.out (by have := HLEN.out; omega)
  have HGL := mkHid (OX.out gl rfl)
  have HCP := mkHid HLL.out.2
  clear OX HLL
  obtain ⟨q, hqe⟩ : ∃ q, n * n = q := ⟨_, rfl⟩
  have HQ := mkHid hqe
  rw [hqe] at hqq hq1
  have hlq : l.length = q := by rw [HLEN.out, hqe]
  rw [hlq] at F6 O6 ⊢
  have HLQ := mkHid hlq
  clear hqe hlq HLEN
  obtain ⟨i0, hi, hzz⟩ := Option.map_eq_some_iff.1 Try.info3
  simp only [Prod.mk.injEq] at hzz
  obtain ⟨hz0, hz1, hz2⟩ := hzz
  obtain ⟨w7, hmk, hown0, hg0⟩ := run_make_full (P := Try.prog) w6 w6.heap.size 22 3 i0 _ 1 Try.underlying22 hi hz0 hz1 .i64 .i64 q (by rw [hz2]; omega) (by unfold maxLen; omega) (Nat.le_refl _)
  have hb7 : Below w6.heap.size w6 w7 := Below.grown (Below.refl w6.heap.size w6) hg0 (Nat.le_refl _) (fun k hk => by cases hk)
  obtain ⟨C, hC⟩ : ∃ c, w6.heap.size = c := ⟨_, rfl⟩
  have hO7 : OwnI w7 w6.heap.size (.slice (some ⟨C, 0, none⟩) q q) (List.replicate q 0) := by
    unfold OwnI
    rw [List.length_replicate, ← hC]
    have e : (madeCells (Value.int .i64 0).cells (q * 1)).toList = ints (List.replicate q 0) := by
      rw [Nat.mul_one]
      unfold ints
      rw [List.map_replicate]
      exact toList_madeCells_one _ _
    rw [e] at hown0
    exact hown0
  have K7 : Hid (Kr w X C n l gl cp (List.replicate q 0) q q st gs a2 n2 w7) := mkHid (by
    have hgl := HGL.out
    have hgs := HG6.out
    have hxw := HXW.out
    have hsz := hb7.size
    have hX6 := F6.out.lt
    refine ⟨below_step B6.out hb7, ?_, (O6.out.below hb7).in0, hO7.mono B6.out.size, I6.out.below hb7, HB2.out.up (Nat.le_refl _) (below_step B6.out hb7), hxw, by omega, by omega, by omega, by omega, by omega, by omega, by omega, by omega⟩
    rw [HLQ.out]
    exact F6.out.below hb7)
  have CN : Hid (Cnt n l (List.replicate q 0) st) := mkHid ⟨by rw [List.length_replicate, HQ.out], fun p hp => by
    rw [List.getD_eq_getElem?_getD, List.getElem?_replicate, if_pos (by rw [← HQ.out]; exact hp)]
    have := potE_le st (capT (p / n) (p % n)) (l.getD p 0)
    exact ⟨Int.le_refl _, by show (0 : Int) + ((potE st (capT (p / n) (p % n)) (l.getD p 0) : Nat) : Int) ≤ 2 * (st.length : Int) + 1; omega⟩⟩
  obtain ⟨⟨f0, f1⟩, f2, f3⟩ := F6.out
  have HB6 := mkHid hb7
  have HC := mkHid hC
  clear hb7 hO7 hown0 hg0 hi hz0 hz1 hz2
  go_wp2_with fail
  clear hfld
  go_loopg [10] 20 (fun g s10 wr => ∃ (u : Nat) (l : List Int) (gl cl : Nat) (ch : List Int), u + g = 20 ∧ s10 = .int .i64 u ∧ okF n l = true ∧ (l.length = q ∧ l.length ≤ cl) ∧ Cnt n l ch st ∧ Kr w X C n l gl cl ch q q st gs a2 n2 wr)
  case atStart => exact ⟨0, l, gl, cp, _, rfl, rfl, HOK.out, ⟨HLQ.out, HCP.out⟩, CN.out, K7.out⟩
  case round =>
    clear K7 CN HOK HLQ HCP HC HB6 F6 O6 B6 I6 HG6 HGL f0 f1 f2 f3 hmk HB2
    obtain ⟨u, l, gl, cl, ch, hug, rfl, hok, hlq, hcn, hK⟩ := hrel
    have K := mkHid hK
    have CN := mkHid hcn
    have HOK := mkHid hok
    have HLQ := mkHid hlq
    clear hK hcn hok hlq
    cases gk with
    | zero =>
      have hlt : ¬ ((u : Int) < 20) := by omega
      have hst := HST.out
      have hw1 : IntKind.i64.wrap (2 * (st.length : Int)) = 2 * (st.length : Int) := IntWalk.i64_in _ ⟨by omega, by omega⟩
      have hw2 : IntKind.i64.wrap (2 * (st.length : Int) + 2) = 2 * (st.length : Int) + 2 := IntWalk.i64_in _ ⟨by omega, by omega⟩
      go_wp2_with fail
      go_loopg [17] q (fun g s17 wr => ∃ k : Nat, k + g = q ∧ s17 = .int .i64 k ∧ Kr w X C n l gl cl ch q q st gs a2 n2 wr)
      case atStart => exact ⟨0, by omega, rfl, K.out⟩
      case round =>
        obtain ⟨k, hkg, rfl, hK⟩ := hrel
        clear K
        have K := mkHid hK
        clear hK
        cases gk with
        | zero =>
          have hlt2 : ¬ ((k : Int) < (q : Int)) := by omega
          go_wp2
          go_ret
          exact ⟨rfl, K.out.bel⟩
        | succ g =>
          have hlt2 : (k : Int) < (q : Int) := by omega
          have k0 : (0 : Int) ≤ (k : Int) := by omega
          have d0 := K.out.fC.cell (p := k) (by rw [CN.out.1, HQ.out]; omega)
          have hx := CN.out.2 k (by rw [HQ.out]; omega)
          obtain ⟨x, hxe⟩ : ∃ x, ch.getD k 0 = x := ⟨_, rfl⟩
          rw [hxe] at d0 hx
          have hgt : ¬ (2 * (st.length : Int) + 2 < x) := by omega
          clear hxe hx
          go_wp2
          go_roundg g
          case measure => omega
          case rel => exact ⟨k + 1, by omega, by go_num, K.out⟩
    | succ g =>
      have hlt : (u : Int) < 20 := by omega
      have h4 : IntKind.i64.wrap (4 * (u : Int)) = ((4 * u : Nat) : Int) := by rw [IntWalk.i64_in _ ⟨by omega, by omega⟩]; omega
      obtain ⟨t4, ht4⟩ : ∃ x, 4 * u = x := ⟨_, rfl⟩
      rw [ht4] at h4
      have ht4b : t4 ≤ 80 := by omega
      clear ht4
      obtain ⟨⟨f0, f1⟩, f2, f3⟩ := K.out.fF
      go_wp2_with fail
      refine (vals2_any n2 c2 t4 n a2 _ HM2.out K.out.bytes (by omega) (by omega)).mono ?_
      rintro e w8 ⟨v, av, cv, rfl, hvl, hvg, hvo, hb⟩
      rw [Int.toNat_natCast] at hvl
      have K8 := mkHid (K.out.below hb)
      have V8 := mkHid hvo.at
      have HVL := mkHid hvl
      have HVG := mkHid hvg
      clear hb hvo hvl hvg K f0 f1 f2 f3
      obtain ⟨⟨f0, f1⟩, f2, f3⟩ := K8.out.fF
      go_wp2_with fail
      refine (sTop_any n w8).mono ?_
      intro e w9 hG
      have hG2 : Gives w8 w9 e n (mk n capT) := by
        have h := hG
        rw [topO_some hn1 hn2, Int.toNat_natCast] at h
        exact h
      clear hG
      obtain ⟨ab, cb, rfl, hob, hb⟩ := hG2
      have hml : (mk n capT).length = q := by rw [mk_len, HQ.out]
      rw [hml] at hob ⊢
      obtain ⟨gb, rfl⟩ := own_addr hob (by rw [hml]; omega)
      obtain ⟨Y, hY⟩ : ∃ y, w9.heap.size = y := ⟨_, rfl⟩
      have A9 := below_alloc w9 (.cells #[.int .i64 n, .slice (some ⟨gb, 0, none⟩) q cb] 27)
      have FY := mkHid (Fq.new w9 n (some ⟨gb, 0, none⟩) q cb)
      have OB : Hid (OwnI (w9.alloc (.cells #[.int .i64 n, .slice (some ⟨gb, 0, none⟩) q cb] 27)) w8.heap.size (.slice (some ⟨gb, 0, none⟩) q cb) (mk n (difP n v 0))) := mkHid (by rw [← difP_zero]; exact hob.below A9)
      have B9 := mkHid (below_step hb A9)
      have HGB := mkHid (show w8.heap.size ≤ gb ∧ gb < Y by rw [← hY]; exact hob.base_le)
      obtain ⟨wa, hwa⟩ : ∃ x, w9.alloc (.cells #[.int .i64 n, .slice (some ⟨gb, 0, none⟩) q cb] 27) = x := ⟨_, rfl⟩
      rw [hwa] at FY OB B9
      rw [hY] at FY
      clear hb hob A9 hml f0 f1 f2 f3
      have hvn : v.length = n := HVL.out
      rw [hvn]
      go_wp2_with fail
      clear hwa hY
      go_loopg [13] n (fun g s13 wx => ∃ i : Nat, i + g = n ∧ s13 = .int .i64 i ∧ Below w8.heap.size w8 wx ∧ Fq wx Y n (some ⟨gb, 0, none⟩) q cb ∧ OwnI wx w8.heap.size (.slice (some ⟨gb, 0, none⟩) q cb) (mk n (difP n v (i * n))))
      case atStart => exact ⟨0, by omega, rfl, B9.out, FY.out, by rw [Nat.zero_mul]; exact OB.out⟩
      case round =>
        clear B9 FY OB
        obtain ⟨i, hig, rfl, hBx, hFx, hOx⟩ := hrel
        have BX := mkHid hBx
        have FX := mkHid hFx
        have OX := mkHid hOx
        clear hBx hFx hOx
        cases gk with
        | succ g3 =>
          have hlt2 : (i : Int) < (n : Int) := by omega
          have hlti : i < n := by omega
          obtain ⟨m, hm⟩ : ∃ m, i * n = m := ⟨_, rfl⟩
          have hmq : m + n ≤ q := by have := HQ.out; rw [← hm, ← this, show i * n + n = (i + 1) * n by rw [Nat.add_mul]; omega]; exact Nat.mul_le_mul_right n hlti
          have hwm : IntKind.i64.wrap ((i : Int) * (n : Int)) = (m : Int) := by rw [show (i : Int) * (n : Int) = ((i * n : Nat) : Int) by simp, hm]; exact IntWalk.i64_in _ (by omega)
          have HMN := mkHid (show m + n = (i + 1) * n by rw [Nat.add_mul, hm]; omega)
          have HNX : Hid (∀ j, j < n → (mk n (difP n v (m + j))).set (m + j) (difT v i j) = mk n (difP n v (m + j + 1))) := mkHid fun j hj => by rw [← hm]; exact difP_next hlti hj
          rw [hm] at OX
          clear hm
          go_wp2_with fail
          go_loopg [14] n (fun g s14 wy => ∃ j : Nat, j + g = n ∧ s14 = .int .i64 j ∧ Below w8.heap.size w8 wy ∧ Fq wy Y n (some ⟨gb, 0, none⟩) q cb ∧ OwnI wy w8.heap.size (.slice (some ⟨gb, 0, none⟩) q cb) (mk n (difP n v (m + j))))
          case atStart => exact ⟨0, by omega, rfl, BX.out, FX.out, OX.out⟩
          case round =>
            clear BX FX OX
            obtain ⟨j, hjg, rfl, hBy, hFy, hOy⟩ := hrel
            cases gk with
            | zero =>
              have hlt3 : ¬ ((j : Int) < (n : Int)) := by omega
              obtain rfl : j = n := by omega
              have HE := mkHid (And.intro hBy (And.intro hFy hOy))
              clear hBy hFy hOy
              go_wp2
              go_roundg g3
              case measure => omega
              case rel => exact ⟨i + 1, by omega, by go_num, HE.out.1, HE.out.2.1, by rw [← HMN.out]; exact HE.out.2.2⟩
            | succ g4 =>
              have hlt3 : (j : Int) < (n : Int) := by omega
              have k0 : (0 : Int) ≤ (m : Int) + (j : Int) := by omega
              have k1 : (m : Int) + (j : Int) < (q : Int) := by omega
              have kw : IntKind.i64.wrap ((m : Int) + (j : Int)) = ((m + j : Nat) : Int) := by rw [IntWalk.i64_in _ ⟨by omega, by omega⟩]; omega
              have ki : (0 : Int) ≤ (i : Int) := by omega
              have kj : (0 : Int) ≤ (j : Int) := by omega
              obtain ⟨bv, ov, rfl, d0⟩ := IntsAt.get' (V8.out.below hBy) (k := i) (by omega)
              obtain ⟨bv', ov', hav, d1⟩ := IntsAt.get' (V8.out.below hBy) (k := j) (by omega)
              obtain ⟨rfl, rfl⟩ : bv = bv' ∧ ov = ov' := by simp at hav; exact hav
              have gx := vgood_get HVG.out i
              have gy := vgood_get HVG.out j
              have HDT := mkHid (show v.getD i 0 - v.getD j 0 = difT v i j from rfl)
              obtain ⟨x, hx⟩ : ∃ x, v.getD i 0 = x := ⟨_, rfl⟩
              obtain ⟨y, hy⟩ : ∃ y, v.getD j 0 = y := ⟨_, rfl⟩
              rw [hx] at d0 gx HDT
              rw [hy] at d1 gy HDT
              have hxy : IntKind.i64.wrap (x - y) = x - y := IntWalk.i64_in _ ⟨by omega, by omega⟩
              obtain ⟨f0, f1⟩ := (K8.out.below hBy).fF.1
              obtain ⟨⟨y0, y1⟩, y2, y3⟩ := hFy
              have hfr := hOy.free (m + j)
              obtain ⟨ho2, hg2⟩ := hOy.stored (m + j) (x - y)
              have hpc := hOy.cell (p := m + j) (by rw [mk_len, HQ.out]; omega)
              have HP := mkHid hpc
              have HE : Hid (Below w8.heap.size w8 (_) ∧ Fq _ Y n (some ⟨gb, 0, none⟩) q cb ∧ OwnI _ w8.heap.size (.slice (some ⟨gb, 0, none⟩) q cb) (mk n (difP n v (m + j + 1)))) := mkHid ⟨hBy.grown hg2 hBy.size (fun k hk => by cases hk; exact HGB.out.1), Fq.grown ⟨⟨y0, y1⟩, y2, y3⟩ hg2 (some_ne (by have := HGB.out; omega)), by rw [← HNX.out j (by omega), ← HDT.out]; exact ho2⟩
              clear hBy hOy ho2 hg2 hav hx hy
              go_wp2_with fail
              go_region
              clear f0 f1 y0 y1 y2 y3 d0 d1 hfr hpc
              go_wp2
              go_roundg g4
              case measure => omega
              case rel => exact ⟨j + 1, by omega, by go_num, HE.out.1.drew, HE.out.2.1.below (Below.refl _ _).drew, HE.out.2.2.drew⟩
        | zero =>
          have hlt2 : ¬ ((i : Int) < (n : Int)) := by omega
          obtain rfl : i = n := by omega
          have hE := difP_all i v
          rw [hE] at OX
          clear hE
          have KX := mkHid (K8.out.below BX.out)
          have VX := mkHid (V8.out.below BX.out)
          obtain ⟨l', hwr, hok', hhas, hlen', hpot⟩ := wid_one hn1 hn2 HOK.out HSB.out HVG.out HVL.out
          have HPOT := mkHid hpot
          have HOK' := mkHid hok'
          have HHAS := mkHid hhas
          have hlq' : l'.length = q := by rw [hlen', HQ.out]
          have HLQ' := mkHid hlq'
          have hbq : (mk i (difT v)).length = q := by rw [mk_len, HQ.out]
          have hst := HST.out
          have HIW : Hid (Calls Try.prog 24 #[.agg #[.int .i64 i, .slice (some ⟨gl, 0, none⟩) q cl], .agg #[.int .i64 i, .slice (some ⟨gb, 0, none⟩) q cb], .slice (some ⟨gs, 0, none⟩) st.length cs] _ fun e w' => Gives _ w' e i l') := mkHid (by
            have h := iWiden_any i l (some ⟨gl, 0, none⟩) cl i (mk i (difT v)) (some ⟨gb, 0, none⟩) cb st gs cs _ (.inr KX.out.ls) (by unfold maxLen; omega) HLQ.out.2 (own_cap OX.out) KX.out.fL.at OX.out.at KX.out.fS
            rw [hwr, HLQ.out.1, hbq] at h
            exact h)
          have HSW : Hid (∀ v9, Below wr.heap.size wr v9 → Calls Try.prog 22 #[.agg #[.int .i64 i, .slice (some ⟨gl, 0, none⟩) q cl], .agg #[.int .i64 i, .slice (some ⟨gb, 0, none⟩) q cb], .slice (some ⟨gs, 0, none⟩) st.length cs] v9 fun e w' => Gives v9 w' e i l') := mkHid (fun v9 hv9 => by
            have h := sWiden_any i l (some ⟨gl, 0, none⟩) cl i (mk i (difT v)) (some ⟨gb, 0, none⟩) cb st gs cs v9 (by unfold maxLen; omega) (KX.out.below hv9).fL.at (OX.out.below hv9).at (KX.out.below hv9).fS
            rw [hwr, HLQ.out.1, hbq] at h
            exact h)
          clear hpot hok' hhas hlen' hwr hbq
          obtain ⟨f0, f1⟩ := KX.out.fF.1
          rw [HLQ.out.1] at f1
          obtain ⟨y0, y1⟩ := FX.out.1
          go_wp2_with fail
          refine HIW.out.mono ?_
          rintro e wc ⟨an, cn, rfl, hon, hb⟩
          rw [hlq'] at hon ⊢
          obtain ⟨gn, rfl⟩ := own_addr hon (by omega)
          obtain ⟨Z, hZ⟩ : ∃ z, wc.heap.size = z := ⟨_, rfl⟩
          have AC := below_alloc wc (.cells #[.int .i64 i, .slice (some ⟨gn, 0, none⟩) q cn] 27)
          have BC := mkHid (below_step hb AC)
          have FZ := mkHid (Fq.new wc i (some ⟨gn, 0, none⟩) q cn)
          have ON := mkHid (hon.below AC)
          have HGN := mkHid (show wr.heap.size ≤ gn ∧ gn < Z by rw [← hZ]; exact hon.base_le)
          have HCN := mkHid (own_cap hon)
          obtain ⟨wd, hwd⟩ : ∃ x, wc.alloc (.cells #[.int .i64 i, .slice (some ⟨gn, 0, none⟩) q cn] 27) = x := ⟨_, rfl⟩
          rw [hwd] at BC FZ ON
          rw [hZ] at FZ
          have KD := mkHid (KX.out.below BC.out)
          have FD := mkHid (FX.out.below BC.out)
          have VD := mkHid (VX.out.below BC.out)
          have HXC : Hid (X < wr.heap.size ∧ C < wr.heap.size) := mkHid ⟨KX.out.fF.lt, (KX.out.fC.base_le).2⟩
          clear hb hon AC f0 f1 y0 y1 HIW
          obtain ⟨f0, f1⟩ := KD.out.fF.1
          rw [HLQ.out.1] at f1
          obtain ⟨y0, y1⟩ := FD.out.1
          obtain ⟨z0, z1⟩ := FZ.out.1
          have lX := KD.out.fF.lt
          have lY := FD.out.lt
          have lZ := FZ.out.lt
          go_wp2_with fail
          clear hwd hZ
          go_region_held3 (fun w' => w'.cell? ⟨X, 0, none⟩ = some (.int .i64 i) ∧ w'.cell? ⟨X, 1, none⟩ = some (.slice (some ⟨gl, 0, none⟩) q cl) ∧ w'.cell? ⟨Y, 0, none⟩ = some (.int .i64 i) ∧ w'.cell? ⟨Y, 1, none⟩ = some (.slice (some ⟨gb, 0, none⟩) q cb) ∧ w'.cell? ⟨Z, 0, none⟩ = some (.int .i64 i) ∧ w'.cell? ⟨Z, 1, none⟩ = some (.slice (some ⟨gn, 0, none⟩) q cn))
            (first | exact ⟨f0, f1, y0, y1, z0, z1⟩ | exact ⟨(hc _ _ lX).trans f0, (hc _ _ lX).trans f1, (hc _ _ lY).trans y0, (hc _ _ lY).trans y1, (hc _ _ lZ).trans z0, (hc _ _ lZ).trans z1⟩)
            (first | (go_at_call 22; refine (HSW.out _ BC.out.drew).mono ?_; rintro e wE ⟨as8, cs8, rfl, hos8, hbE⟩; rw [hlq'] at hos8 ⊢; obtain ⟨hc, hf⟩ := bcell hbE) | (go_at_call 45; have h45 := sameFacts_ok i l' (some ⟨gn, 0, none⟩) as8 cn cs8 wE (by rw [HLQ'.out]; unfold maxLen; omega) ((ON.out.below (Below.refl _ _).drew).below hbE).at hos8.at; rw [HLQ'.out] at h45; refine h45.mono ?_; rintro e wF ⟨rfl, hbF⟩; obtain ⟨hc', hf'⟩ := bcell hbF; have hc9 : ∀ (b k : Nat), b < wd.heap.size → wF.cell? ⟨b, k, none⟩ = wd.cell? ⟨b, k, none⟩ := (fun b k h => (hc' b k (Nat.lt_of_lt_of_le h hbE.size)).trans (hc b k h)); clear hc; have hc := hc9) | (go_at_call 46; have h46 := iHas_any i l' (some ⟨gn, 0, none⟩) cn v av cv wF (((ON.out.below (Below.refl _ _).drew).below hbE).below hbF).at ((VD.out.below (Below.refl _ _).drew).below hbE |>.below hbF) (by rw [HVL.out]; unfold maxLen; omega); rw [HLQ'.out, HVL.out, HHAS.out] at h46; refine h46.mono ?_; rintro e wG ⟨rfl, hbG⟩; obtain ⟨hc', hf'⟩ := bcell hbG; have hc9 : ∀ (b k : Nat), b < wd.heap.size → wG.cell? ⟨b, k, none⟩ = wd.cell? ⟨b, k, none⟩ := (fun b k h => (hc' b k (Nat.lt_of_lt_of_le (Nat.lt_of_lt_of_le h hbE.size) hbF.size)).trans (hc b k h)); clear hc; have hc := hc9))
          have NG := mkHid (below_step (below_step (below_step (Below.refl wd.heap.size wd).drew hbE) hbF) hbG)
          have KG := mkHid (KD.out.below NG.out)
          have FG := mkHid (FZ.out.below NG.out)
          have OG := mkHid (ON.out.below NG.out).in0
          have LG := mkHid (show X < Z ∧ C < Z ∧ gn ≠ X ∧ gn ≠ C ∧ gn < wG.heap.size by
            have h1 := HXC.out
            have h2 := HGN.out
            have h3 := FG.out.lt
            omega)
          have CM := mkHid (CntM.start (l' := l') CN.out)
          clear hc hc' hf hf' hc9 h45 h46 hbE hbF hbG hos8 f0 f1 y0 y1 z0 z1 lX lY lZ KD FD FZ ON VD NG CN HSW BC KX FX OX BX VX HGN HXC
          go_wp2_with fail
          go_loopg [16] q (fun g s16 wh => ∃ (k : Nat) (ch : List Int), k + g = q ∧ s16 = .int .i64 k ∧ CntM i l l' ch st k ∧ Kr w X C i l gl cl ch q q st gs a2 n2 wh ∧ Fq wh Z i (some ⟨gn, 0, none⟩) q cn ∧ IntsIn wh l' gn 0 ∧ gn < wh.heap.size)
          case atStart => exact ⟨0, ch, by omega, rfl, CM.out, KG.out, FG.out, OG.out, LG.out.2.2.2.2⟩
          case round =>
            have LH := mkHid (And.intro LG.out.1 (And.intro LG.out.2.1 (And.intro LG.out.2.2.1 LG.out.2.2.2.1)))
            clear CM KG FG OG LG
            obtain ⟨k, ch, hkg, rfl, hcm, hK, hF, hI, hgn⟩ := hrel
            have CM := mkHid hcm
            have K := mkHid hK
            have FZ := mkHid hF
            have IN := mkHid hI
            have LN := mkHid hgn
            clear hcm hK hF hI hgn
            obtain ⟨⟨f0, f1⟩, f2, f3⟩ := K.out.fF
            rw [HLQ.out.1] at f1
            obtain ⟨z0, z1⟩ := FZ.out.1
            cases gk with
            | zero =>
              have hlt4 : ¬ ((k : Int) < (q : Int)) := by omega
              have ekq : k = i * i := by rw [HQ.out]; omega
              have CE := mkHid (show Cnt i l' ch st from by have h := CM.out; rw [ekq] at h; exact h.done)
              have KE := mkHid (K.out.setX (cl' := cn) IN.out LH.out.2.2.1 LH.out.2.2.2 LN.out)
              rw [HLQ'.out] at KE
              clear ekq
              go_wp2
              go_roundg g
              case measure => omega
              case rel => exact ⟨u + 1, l', gn, cn, ch, by omega, by go_num, HOK'.out, ⟨HLQ'.out, by rw [HLQ'.out]; have := HCN.out; rw [HLQ'.out] at this; exact this⟩, CE.out, KE.out⟩
            | succ g5 =>
              have hlt4 : (k : Int) < (q : Int) := by omega
              have k0 : (0 : Int) ≤ (k : Int) := by omega
              have d0 := K.out.fL k (l.getD k 0) (get_of (by rw [HLQ.out.1]; omega))
              have d1 := IN.out k (l'.getD k 0) (get_of (by rw [HLQ'.out]; omega))
              rw [Nat.zero_add] at d0 d1
              have hpk := HPOT.out k (by rw [HQ.out]; omega)
              have HSM := mkHid (CM.out.same (k := k))
              have HMO := mkHid (CM.out.more (k := k) (by rw [HQ.out]; omega))
              have dc := K.out.fC.cell (p := k) (by rw [CM.out.1, HQ.out]; omega)
              have dcf := K.out.fC.free k
              have hcb := CM.out.2 k (by rw [HQ.out]; omega)
              have hst := HST.out
              obtain ⟨x, hx⟩ : ∃ x, l.getD k 0 = x := ⟨_, rfl⟩
              obtain ⟨y, hy⟩ : ∃ y, l'.getD k 0 = y := ⟨_, rfl⟩
              obtain ⟨cx, hcx⟩ : ∃ c, ch.getD k 0 = c := ⟨_, rfl⟩
              rw [hx] at d0 hpk HSM HMO
              rw [hy] at d1 hpk HSM HMO
              rw [hcx] at dc HMO hcb
              have hcw : IntKind.i64.wrap (cx + 1) = cx + 1 := IntWalk.i64_in _ ⟨by omega, by omega⟩
              have HPK := mkHid hpk
              have KC := mkHid (K.out.setC k (cx + 1))
              have FC := mkHid (FZ.out.grown (K.out.fC.stored k (cx + 1)).2 (some_ne (by have := LH.out; omega)))
              have IC := mkHid (IN.out.grown (K.out.fC.stored k (cx + 1)).2 (.inr (some_ne LH.out.2.2.2)))
              have LC := mkHid (Nat.lt_of_lt_of_le LN.out (K.out.fC.stored k (cx + 1)).2.size)
              clear hx hy hcx hpk hcb
              by_cases hne : y = x
              · have hb1 : (y != x) = false := by simp [hne]
                have CX := mkHid (HSM.out hne)
                clear hne KC FC IC LC HMO HSM HPK
                go_wp2_with fail
                go_quiet (fail)
                go_wp2
                go_roundg g5
                case measure => omega
                case rel => exact ⟨k + 1, ch, by omega, by go_num, CX.out, K.out.below ⟨rfl, rfl, rfl, Nat.le_refl _, fun _ _ => rfl⟩, FZ.out.below ⟨rfl, rfl, rfl, Nat.le_refl _, fun _ _ => rfl⟩, IN.out.below ⟨rfl, rfl, rfl, Nat.le_refl _, fun _ _ => rfl⟩, LN.out⟩
              · have hb1 : (y != x) = true := by simpa using hne
                have CX := mkHid (HMO.out (HPK.out hne))
                clear hne HMO HSM HPK
                go_wp2_with fail
                go_quiet (fail)
                go_wp2
                go_roundg g5
                case measure => omega
                case rel => exact ⟨k + 1, ch.set k (cx + 1), by omega, by go_num, CX.out, KC.out.below ⟨rfl, rfl, rfl, Nat.le_refl _, fun _ _ => rfl⟩, FC.out.below ⟨rfl, rfl, rfl, Nat.le_refl _, fun _ _ => rfl⟩, IC.out.below ⟨rfl, rfl, rfl, Nat.le_refl _, fun _ _ => rfl⟩, LC.out⟩
/-- A slice of bytes that came in. -/
theorem open_bytes {H : Type} {enc : TypeId × Value → H} {W : World} {a : Option Addr} {len cap : Nat} {x : DataW H} {p : List MemPlace} (h : DataW.Trod enc Try.prog W 0 (fun _ => true) true 56 (.slice a len cap) x p) : Bytes W W.heap.size a len ∧ len ≤ maxLen := by
  obtain ⟨fuel, hf⟩ := h
  rcases open_ints Try.underlying56 Try.underlying5 (by kernel_rfl) hf with ⟨hcs, _⟩ | ⟨ad, l, c, zs, hcs, _, hl, hm, hz, _, hcell, hwz⟩
  · simp [Value.cells] at hcs
    exact ⟨.inl hcs.2.1, by rw [hcs.2.1]; exact Nat.zero_le _⟩
  · simp [Value.cells] at hcs
    obtain ⟨rfl, rfl, rfl⟩ := hcs
    refine ⟨?_, by omega⟩
    by_cases h0 : len = 0
    · exact .inl h0
    · have hzl : zs.length = cap := by simpa using hz
      obtain ⟨b, off, rfl, hc⟩ := ints_at hcell (by omega)
      refine .inr ⟨b, off, rfl, World.block_lt_of_cell? W _ (hc 0 (by omega)), fun i hi => ?_⟩
      have hmem : zs.getD i 0 ∈ zs := by
        rw [List.getD_eq_getElem?_getD, List.getElem?_eq_getElem (by omega)]
        exact List.getElem_mem _
      have hw := bounds_u8 (hwz _ hmem)
      exact ⟨_, hw.1, hw.2, hc i (by omega)⟩

set_option maxRecDepth 100000 in
theorem law_lifted (os : Os) (started : os.Started) (H : Type) (enc : TypeId × Value → H) :
    ReturnsInHanded {} Try.checked os 11 .any (Rows.fnFactsRestSpec.pre6 enc Try.prog Try.f11 Rows.fnFactsRestRow.domain false) (Rows.fnFactsRestSpec.post enc Try.prog Try.f11 false true false false) := by
  refine returnsInHanded_of_change (C := Try.checked) Try.own started (by kernel_rfl) Try.func11
    (ChangeSpec.witness6 (enc := enc) (C := Try.checked) false ⟨#[], #[.slice none 0 0, .slice none 0 0], []⟩ 8 (by kernel_rfl) (by kernel_rfl) (by kernel_rfl) (by kernel_rfl)) ?_
  intro W base args ds gs before hval0 hW hcnd _
  have hval : ∀ (j : Nat) t v, Try.f11.params[j]? = some t → args[j]? = some v → Value.okWide Try.prog W .any base t v := hval0
  have hW' := hW
  obtain ⟨p, q, hA0, hV, rfl, hfz, hnd⟩ := hW
  have hA : DataW.TrodAll enc Try.prog W 0 (fun _ => true) true Try.f11.params.toList args.toList ds p := hA0
  rw [Try.params11] at hA hval
  obtain ⟨v0, vs0, d0, ds0, p0, q0, hargs, rfl, rfl, h0, r0⟩ := trodAll_cons hA
  obtain ⟨v1, vs1, d1, ds1, p1, q1, rfl, rfl, rfl, h1, r1⟩ := trodAll_cons r0
  obtain ⟨rfl, rfl, rfl⟩ := trodAll_nil r1
  obtain rfl : args = #[v0, v1] := by cases args; simp_all
  obtain ⟨rfl, rfl⟩ := trodVars_none hV
  obtain ⟨a0, len0, cap0, rfl⟩ := okWide_slice Try.underlying56 (hval 0 56 v0 rfl rfl)
  obtain ⟨a1, len1, cap1, rfl⟩ := okWide_slice Try.underlying56 (hval 1 56 v1 rfl rfl)
  have lt0 : ∀ x ∈ p0, x.block < W.heap.size := by obtain ⟨m, hm⟩ := h0; exact DataW.trod_lt m _ _ _ hm
  have lt1 : ∀ x ∈ p1, x.block < W.heap.size := by obtain ⟨m, hm⟩ := h1; exact DataW.trod_lt m _ _ _ hm
  clear hA0 hval0
  refine (law_walk a0 a1 len0 cap0 len1 cap1 W (open_bytes h0).2 (open_bytes h1).2 (open_bytes h0).1 (open_bytes h1).1).mono fun e W' ⟨he, bel⟩ => ?_
  subst he
  exact ⟨_, rfl, _, _, _, [], _, [], hW', trodAll_mk1 (shut_bool Try.underlying4 _), (trodAll_cons_mk (Below.trod Try.laidOut (by kernel_rfl) (of_decide_eq_true (by kernel_rfl)) h0 bel lt0) (trodAll_cons_mk (Below.trod Try.laidOut (by kernel_rfl) (of_decide_eq_true (by kernel_rfl)) h1 bel lt1) trodAll_mk0)), rfl, bel.frame _, fun h => by cases h⟩

theorem law_holds : Rows.FnFactsRestSaid :=
  OpenClaim.holds_of_wide 11 Try.f11 rfl rfl rfl rfl rfl rfl rfl ⟨rfl, rfl, rfl, rfl, rfl⟩ rfl rfl rfl rfl rfl (by kernel_rfl) Try.func11 (by kernel_rfl)
    (of_decide_eq_true (by kernel_rfl)) (by unfold Func.isWrapper; first | (rw [if_pos (by decide +kernel)]; kernel_rfl) | (rw [if_neg (by decide +kernel)]; exact ⟨rfl, rfl⟩))
    (fun os started H enc _ => law_lifted os started H enc)

#print axioms law_holds
end Go.Proofs.Ytmaejdomlggopaa
