/-
  CONTRACTS of both HeadsOfs, at every graph.
-/
import Derived.Test.YtpikgigfeifliaaHds
namespace Go.Proofs.Ytpikgigfeifliaa
open Go.RowKit

set_option maxHeartbeats 800000 in
theorem sHeads_no (p : Int) (es : List Ed) (a : Option Addr) (c : Nat) (w : World) (hg : gokB p es = false) (hl : KidsG w 0 a es) :
    Calls Try.prog 11 #[.agg #[.int .i64 p, .slice a es.length c]] w fun e w' => ∃ ao cap, e = .returned (.slice ao 0 cap) ∧ OwnI w' w.heap.size (.slice ao 0 cap) [] ∧ Below w.heap.size w w' := by
  have HL := mkHid hl
  have HGK := mkHid hg
  have B0 := mkHid (((Below.refl w.heap.size w).alloc (Nat.le_refl _) (.cells #[.int .i64 p, .slice a es.length c] 29)).alloc (by simp) (.cells #[] 3))
  clear hl hg
  go_enter Try.func11, Try.ntmps11
  go_wp2_with fail
  refine (sGraphOk_ok p es a c _ (HL.out.below B0.out)).mono ?_
  rintro e w1 ⟨rfl, hb1⟩
  rw [HGK.out]
  have q2 := mkHid (show w1.heap[w.heap.size + 1]? = some (.cells #[] 3 (0, 0)) from (hb1.block _ (by simp)).trans (by have := heap_alloc_new (w.alloc (.cells #[.int .i64 p, .slice a es.length c] 29)) (.cells #[] 3); simpa using this))
  have B1 := mkHid (below_step B0.out hb1)
  clear hb1 B0
  go_wp2
  go_ret
  exact ⟨_, _, rfl, OwnI.fresh (by omega) q2.out, B1.out⟩
theorem sHeads_ok (p : Int) (es : List Ed) (a : Option Addr) (c : Nat) (w : World) (hl : KidsG w 0 a es) :
    Calls Try.prog 11 #[.agg #[.int .i64 p, .slice a es.length c]] w fun e w' => ∃ ao cap, e = .returned (.slice ao (headsL (lastsR p es)).length cap) ∧ OwnI w' w.heap.size (.slice ao (headsL (lastsR p es)).length cap) (headsL (lastsR p es)) ∧ Below w.heap.size w w' := by
  cases hg : gokB p es
  · have e : lastsR p es = [] := by unfold lastsR; rw [if_neg (by rw [hg]; decide)]
    rw [e]
    exact sHeads_no p es a c w hg hl
  · obtain ⟨hp, _, _⟩ := all_of hg
    obtain ⟨p1, p2⟩ := btw_iff.1 hp
    obtain ⟨n, rfl⟩ : ∃ n : Nat, p = n := ⟨p.toNat, by omega⟩
    have e : lastsR n es = lastsL n es := by unfold lastsR; rw [if_pos hg, Int.toNat_natCast]
    rw [e]
    exact sHeads_yes n es a c w hg hl

set_option maxHeartbeats 400000 in
theorem isHead_yes (n c g o k : Nat) (x : Int) (w : World) (hk : (k : Int) < n) (hc : w.cell? ⟨g, o + k, none⟩ = some (.int .i64 x)) (hx : 0 ≤ x) :
    Calls Try.prog 29 #[.slice (some ⟨g, o, none⟩) n c, .int .i64 k] w fun e w' => e = .returned (.bool true) ∧ w = w' := by
  go_enter Try.func29, Try.ntmps29
  go_wp2
  go_ret
  exact ⟨ret_bool (by simp), rfl⟩
set_option maxHeartbeats 400000 in
theorem isHead_no (n c g o k : Nat) (x : Int) (w : World) (hk : (k : Int) < n) (hc : w.cell? ⟨g, o + k, none⟩ = some (.int .i64 x)) (hx : ¬ 0 ≤ x) :
    Calls Try.prog 29 #[.slice (some ⟨g, o, none⟩) n c, .int .i64 k] w fun e w' => e = .returned (.bool false) ∧ w = w' := by
  go_enter Try.func29, Try.ntmps29
  go_wp2
  go_ret
  exact ⟨ret_bool (by simp), rfl⟩

set_option maxHeartbeats 1600000 in
theorem iHeads_ok (p : Int) (es : List Ed) (a : Option Addr) (c : Nat) (w : World) (hl : KidsG w 0 a es) :
    Calls Try.prog 12 #[.agg #[.int .i64 p, .slice a es.length c]] w fun e w' => ∃ ao cap, e = .returned (.slice ao (headsL (lastsR p es)).length cap) ∧ OwnI w' w.heap.size (.slice ao (headsL (lastsR p es)).length cap) (headsL (lastsR p es)) ∧ Below w.heap.size w w' := by
  obtain ⟨i0, hi, hz⟩ := Option.map_eq_some_iff.1 Try.info3
  simp only [Prod.mk.injEq] at hz
  obtain ⟨hz0, hz1, hz2⟩ := hz
  have HI := mkHid (show Try.prog.info? 3 = some i0 ∧ i0.zero = some (.int .i64 0) ∧ i0.size = 1 ∧ i0.bytes = 8 from ⟨hi, hz0, hz1, hz2⟩)
  have HL := mkHid hl
  have B0 := mkHid ((Below.refl w.heap.size w).alloc (Nat.le_refl _) (.cells #[.int .i64 p, .slice a es.length c] 29))
  obtain ⟨l, hll⟩ : ∃ l, lastsR p es = l := ⟨_, rfl⟩
  have hlen : l.length ≤ 3000 := by
    rw [← hll]
    unfold lastsR
    split
    · rename_i hg
      obtain ⟨hp, _, _⟩ := all_of hg
      obtain ⟨p1, p2⟩ := btw_iff.1 hp
      rw [lastsL_len]
      omega
    · simp
  rw [hll]
  have HLL := mkHid hll
  clear hl hi hz0 hz1 hz2 hll
  go_enter Try.func12, Try.ntmps12
  go_wp2_with fail
  refine (iLasts_ok p es a c _ (HL.out.below B0.out)).mono ?_
  rintro e w1 ⟨ga, gc, rfl, ho, hb1⟩
  rw [HLL.out] at ho ⊢
  have hoff := mkHid (show ∀ g, ga = some ⟨g, 0, none⟩ → w.heap.size < g ∧ g < w1.heap.size from fun g hg => by
    subst hg
    have h1 := (World.ownsRow.lt ho g rfl).1
    have h2 := (World.ownsRow.lt ho g rfl).2
    simp at h1
    exact ⟨h1, h2⟩)
  have HAT := mkHid ho.at
  have HOW := mkHid ho
  have B1 := mkHid (below_step B0.out hb1)
  clear hb1 ho B0
  go_wp2
  go_loopw [3, 10] (fun o i w' => ∃ (k : Nat) (ao : Option Addr) (cap : Nat), k ≤ l.length ∧ i = .int .i64 k ∧ o = .slice ao (headsT l k).length cap ∧ OwnI w' w1.heap.size (.slice ao (headsT l k).length cap) (headsT l k) ∧
    Below w1.heap.size w1 w') (fun _ i _ => l.length - (intOf i).toNat)
  case atStart => exact ⟨0, none, 0, Nat.zero_le _, rfl, rfl, OwnI.nil _ _, Below.refl _ _⟩
  case round =>
    obtain ⟨k, ao, cap, hk, rfl, rfl, hown, hbel⟩ := hrel
    have HO := mkHid hown
    have HB := mkHid hbel
    have HA := mkHid (HAT.out.below hbel)
    have hsz := hbel.size
    clear hown hbel
    by_cases hlt : k < l.length
    · obtain ⟨x, hx⟩ : ∃ x, l[k]? = some x := ⟨_, List.getElem?_eq_getElem hlt⟩
      have HX := mkHid hx
      rcases HA.out with hh | ⟨g, o, rfl, hg⟩
      · subst hh; simp at hx
      have hc := hg k x hx
      have hlt' := headsT_len l k
      have k3 : (k : Int) < (l.length : Int) := by omega
      clear hx hg
      by_cases hx0 : 0 ≤ x
      · have HC := mkHid (isHead_yes l.length gc g o k x wr k3 hc hx0)
        clear hc
        go_wp2_with fail
        refine HC.out.mono ?_
        rintro e w' ⟨rfl, rfl⟩
        go_wp2_with (at_builtin; refine wpList_append_lies _ rfl _ _ 33 rfl w1.heap.size 3 i0 (.int .i64 0) 1 8 Try.underlying33 HI.out.1 HI.out.2.1 HI.out.2.2.1 HI.out.2.2.2 rfl (by decide) _ _ _ rfl (World.ownsRow.alloc HO.out _) ⟨wr.heap.size, 0, none⟩ 1 1 [.int .i64 k] rfl rfl ?c1 ?c2 (by decide) ?c3 ?c4 ?c5 (wr.heap.size + 1) (by simp) ?_)
        case c1 => exact one_new _ _ _
        case c2 => intro u hu; simp at hu; rcases hu with rfl; rfl
        case c3 => unfold maxLen; omega
        case c4 => omega
        case c5 => simp; omega
        intro g' cap' w3 hown' hgrow hat' _
        rw [ints_snoc] at hown'
        have HE := mkHid (headsT_yes HX.out hx0)
        have hown'' : OwnI w3 w1.heap.size (.slice (some ⟨g', 0, none⟩) (headsT l (k + 1)).length cap') (headsT l (k + 1)) := by
          unfold OwnI
          rw [HE.out]
          simpa using hown'
        have HO' := mkHid hown''
        have HB' : Hid (Below w1.heap.size w1 w3) := mkHid ((HB.out.alloc HB.out.size _).grown hgrow (by simp; omega) (fun q hq => (World.ownsRow.lt HO.out q hq).1))
        have hl2 : (headsT l k).length + 1 = (headsT l (k + 1)).length := by rw [HE.out]; simp
        have HL2 := mkHid hl2
        clear hown' hgrow hat' hown'' hl2 HC
        go_wp2
        go_roundw
        case rel => exact ⟨k + 1, some ⟨g', 0, none⟩, cap', by omega, by go_num, by rw [HL2.out], HO'.out, HB'.out⟩
        case measure => simp [intOf]; omega
      · have HE := mkHid (headsT_no HX.out hx0)
        have HC := mkHid (isHead_no l.length gc g o k x wr k3 hc hx0)
        clear hc
        go_wp2_with fail
        refine HC.out.mono ?_
        rintro e w' ⟨rfl, rfl⟩
        go_wp2
        go_roundw
        case rel =>
          refine ⟨k + 1, ao, cap, by omega, by go_num, by rw [HE.out], ?_, HB.out⟩
          rw [HE.out]; exact HO.out
        case measure => simp [intOf]; omega
    · have e : k = l.length := by omega
      subst e
      go_wp2
      go_ret
      exact ⟨ao, cap, rfl, HO.out.mono B1.out.size, B1.out.trans (HB.out.mono B1.out.size)⟩
end Go.Proofs.Ytpikgigfeifliaa
