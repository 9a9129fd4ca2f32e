/-
  CONTRACTS of both HeadsOfs.
-/
import Derived.Test.YtpikgigfeifliaaLsti
namespace Go.Proofs.Ytpikgigfeifliaa
open Go.RowKit

def headsT (l : List Int) : Nat → List Int
  | 0 => []
  | k + 1 => headsT l k ++ (if 0 ≤ l.getD k (-1) then [(k : Int)] else [])
def headsL (l : List Int) : List Int := headsT l l.length
theorem headsT_yes {l : List Int} {k : Nat} {x : Int} (h : l[k]? = some x) (hx : 0 ≤ x) : headsT l (k + 1) = headsT l k ++ [(k : Int)] := by
  simp only [headsT, List.getD, h, Option.getD_some]
  rw [if_pos hx]
theorem headsT_no {l : List Int} {k : Nat} {x : Int} (h : l[k]? = some x) (hx : ¬ 0 ≤ x) : headsT l (k + 1) = headsT l k := by
  simp only [headsT, List.getD, h, Option.getD_some]
  rw [if_neg hx, List.append_nil]
theorem headsT_len (l : List Int) : ∀ k, (headsT l k).length ≤ k
  | 0 => by simp [headsT]
  | k + 1 => by
    have := headsT_len l k
    simp only [headsT, List.length_append]
    split <;> simp <;> omega
theorem one_new (w : World) (a : Value) (T : TypeId) (j : Nat) (u : Value) (h : [a][j]? = some u) : (w.alloc (.cells #[a] T)).cell? ((⟨w.heap.size, 0, none⟩ : Addr).add j) = some u := by
  rw [WideShapes.add_plain, Nat.zero_add, World.cell?_alloc_new]
  simpa using h
theorem IntsAt.keep {w w' : World} {g : Nat} {l : List Int} (h : IntsAt w (some ⟨g, 0, none⟩) l) (hb : w'.heap[g]? = w.heap[g]?) : IntsAt w' (some ⟨g, 0, none⟩) l := by
  rcases h with h | ⟨b, o, e, h⟩
  · exact .inl h
  · simp at e
    obtain ⟨rfl, rfl⟩ := e
    exact .inr ⟨g, 0, rfl, fun i x hx => (World.cell?_of_block (w := w) hb).trans (h i x hx)⟩
theorem IntsAt.get {w : World} {b o : Nat} {l : List Int} (h : IntsAt w (some ⟨b, o, none⟩) l) {i : Nat} {x : Int} (hx : l[i]? = some x) : w.cell? ⟨b, o + i, none⟩ = some (.int .i64 x) := by
  rcases h with h | ⟨b', o', e, h⟩
  · subst h; simp at hx
  · simp at e
    obtain ⟨rfl, rfl⟩ := e
    exact h i x hx
theorem OwnI.len {w : World} {base : Nat} {ao : Option Addr} {n cap : Nat} {l : List Int} (h : OwnI w base (.slice ao n cap) l) : n = l.length := by
  obtain ⟨_, _, e⟩ := h.form
  simp at e
  exact e.2.1

set_option maxHeartbeats 1600000 in
theorem sHeads_yes (n : Nat) (es : List Ed) (a : Option Addr) (c : Nat) (w : World) (hg : gokB (n : Int) es = true) (hl : KidsG w 0 a es) :
    Calls Try.prog 11 #[.agg #[.int .i64 n, .slice a es.length c]] w fun e w' => ∃ ao cap, e = .returned (.slice ao (headsL (lastsL n es)).length cap) ∧ OwnI w' w.heap.size (.slice ao (headsL (lastsL n es)).length cap) (headsL (lastsL n es)) ∧ Below w.heap.size w w' := by
  obtain ⟨hp, hn, hall⟩ := all_of hg
  obtain ⟨p1, p2⟩ := btw_iff.1 hp
  obtain ⟨i0, hi, hz⟩ := Option.map_eq_some_iff.1 Try.info3
  simp only [Prod.mk.injEq] at hz
  obtain ⟨hz0, hz1, hz2⟩ := hz
  have HI := mkHid (show Try.prog.info? 3 = some i0 ∧ i0.zero = some (.int .i64 0) ∧ i0.size = 1 ∧ i0.bytes = 8 from ⟨hi, hz0, hz1, hz2⟩)
  have HL := mkHid hl
  have HGK := mkHid hg
  have B0 := mkHid (((Below.refl w.heap.size w).alloc (Nat.le_refl _) (.cells #[.int .i64 n, .slice a es.length c] 29)).alloc (by simp) (.cells #[] 3))
  obtain ⟨l, hll⟩ : ∃ l, lastsL n es = l := ⟨_, rfl⟩
  have hlen : l.length = n := by rw [← hll, lastsL_len]
  rw [hll]
  have HLL := mkHid hll
  have HLEN := mkHid hlen
  clear hl hi hz0 hz1 hz2 hall hg hp hll hlen
  go_enter Try.func11, Try.ntmps11
  go_wp2_with fail
  refine (sGraphOk_ok (n : Int) es a c _ (HL.out.below B0.out)).mono ?_
  rintro e w1 ⟨rfl, hb1⟩
  rw [HGK.out]
  have s1 : w.heap.size + 1 < w1.heap.size := by have := hb1.size; simp at this; omega
  have q0 : w1.cell? ⟨w.heap.size, 0, none⟩ = some (.int .i64 n) := (hb1.cell (p := ⟨w.heap.size, 0, none⟩) (by simp; omega)).trans (by simp [go_sem])
  have q1 : w1.cell? ⟨w.heap.size, 1, none⟩ = some (.slice a es.length c) := (hb1.cell (p := ⟨w.heap.size, 1, none⟩) (by simp; omega)).trans (by simp [go_sem])
  have q2 : w1.heap[w.heap.size + 1]? = some (.cells #[] 3 (0, 0)) := (hb1.block _ (by simp)).trans (by have := heap_alloc_new (w.alloc (.cells #[.int .i64 n, .slice a es.length c] 29)) (.cells #[] 3); simpa using this)
  have B1 := mkHid (below_step B0.out hb1)
  have HQ := mkHid (And.intro q0 q2)
  clear hb1 B0 q2
  go_wp2_with fail
  refine (sLasts_ok n es a c _ HGK.out (HL.out.below B1.out)).mono ?_
  rintro e w2 ⟨g, gc, rfl, ho, hb2⟩
  have hgl : w1.heap.size ≤ g := by
    have := (World.ownsRow.lt ho g rfl).1
    omega
  have hgl2 : g < w2.heap.size := (World.ownsRow.lt ho g rfl).2
  have r0 : w2.cell? ⟨w.heap.size, 0, none⟩ = some (.int .i64 n) := (hb2.cell (p := ⟨w.heap.size, 0, none⟩) (by dsimp only; omega)).trans HQ.out.1
  have r2 := mkHid ((hb2.block (w.heap.size + 1) s1).trans HQ.out.2)
  have HAT := mkHid ho.at
  have B2 := mkHid (below_step B1.out hb2)
  rw [HLL.out] at HAT
  have s2 : w1.heap.size ≤ w2.heap.size := hb2.size
  have R0 := mkHid r0
  clear hb2 ho B1 HQ q0 q1
  go_wp2
  go_loopw [3, 5] (fun o i w' => ∃ (k : Nat) (ao : Option Addr) (cap : Nat), k ≤ n ∧ i = .int .i64 k ∧ o = .slice ao (headsT l k).length cap ∧ OwnI w' (w.heap.size + 1) (.slice ao (headsT l k).length cap) (headsT l k) ∧ (∀ q, Value.ownBlock (.slice ao (headsT l k).length cap) = some q → q ≠ g) ∧
    w'.cell? ⟨w.heap.size, 0, none⟩ = some (.int .i64 n) ∧ IntsAt w' (some ⟨g, 0, none⟩) l ∧ w2.heap.size ≤ w'.heap.size ∧ Below w.heap.size w w') (fun _ i _ => n - (intOf i).toNat)
  case atStart => exact ⟨0, _, 0, Nat.zero_le _, rfl, rfl, OwnI.fresh (by omega) r2.out, fun q hq => by simp [Value.ownBlock] at hq; omega, R0.out, HAT.out, Nat.le_refl _, B2.out⟩
  case round =>
    clear r0
    obtain ⟨k, ao, cap, hk, rfl, rfl, hown, hoff, r0, hat, hsz, hbel⟩ := hrel
    have HO := mkHid hown
    have HF := mkHid hoff
    have HA := mkHid hat
    have HB := mkHid hbel
    have R0' := mkHid r0
    clear hown hoff hat hbel
    by_cases hlt : k < n
    · obtain ⟨x, hx⟩ : ∃ x, l[k]? = some x := ⟨_, List.getElem?_eq_getElem (by rw [HLEN.out]; exact hlt)⟩
      have c0 := HA.out.get hx
      rw [Nat.zero_add] at c0
      have k3 : (k : Int) < (n : Int) := by omega
      have HX := mkHid hx
      have hlt' := headsT_len l k
      clear hx
      by_cases hx0 : 0 ≤ x
      · go_wp2_with (at_builtin; refine wpList_append_lies _ rfl _ _ 33 rfl (w.heap.size + 1) 3 i0 (.int .i64 0) 1 8 Try.underlying33 HI.out.1 HI.out.2.1 HI.out.2.2.1 HI.out.2.2.2 rfl (by decide) _ _ _ rfl (World.ownsRow.alloc HO.out _) ⟨wr.heap.size, 0, none⟩ 1 1 [.int .i64 k] rfl rfl ?c1 ?c2 (by decide) ?c3 ?c4 ?c5 (wr.heap.size + 1) (by simp) ?_)
        case c1 => exact one_new _ _ _
        case c2 => intro u hu; simp at hu; rcases hu with rfl; rfl
        case c3 => unfold maxLen; omega
        case c4 => omega
        case c5 => simp; omega
        intro g' cap' w3 hown' hgrow hat' _
        rw [ints_snoc] at hown'
        have HE := mkHid (headsT_yes HX.out hx0)
        have hown'' : OwnI w3 (w.heap.size + 1) (.slice (some ⟨g', 0, none⟩) (headsT l (k + 1)).length cap') (headsT l (k + 1)) := by
          unfold OwnI
          rw [HE.out]
          simpa using hown'
        have HO' := mkHid hown''
        have HF' : Hid (∀ q, Value.ownBlock (.slice (some ⟨g', 0, none⟩) (headsT l (k + 1)).length cap') = some q → q ≠ g) := mkHid fun q hq => by
          simp [Value.ownBlock] at hq
          subst hq
          rcases hat' with h | h
          · exact HF.out _ h
          · omega
        have R1 : Hid (w3.cell? ⟨w.heap.size, 0, none⟩ = some (.int .i64 n)) := by
          refine mkHid ((hgrow.cell_far ⟨w.heap.size, 0, none⟩ (by simp; omega) (fun e => ?_)).trans ((((Below.refl wr.heap.size wr).alloc (Nat.le_refl _) _).cell (p := ⟨w.heap.size, 0, none⟩) (by dsimp only; omega)).trans R0'.out))
          have := (World.ownsRow.lt HO.out _ e.symm).1
          dsimp only at this
          omega
        have HA' := mkHid (HA.out.keep (w' := w3) ((hgrow.block g (by simp; omega) (fun e => HF.out g e.symm rfl)).trans (((Below.refl wr.heap.size wr).alloc (Nat.le_refl _) _).block g (by omega))))
        have HB' : Hid (Below w.heap.size w w3) := mkHid ((HB.out.alloc HB.out.size _).grown hgrow (by simp; have := HB.out.size; omega) (fun q hq => by have := (World.ownsRow.lt HO.out q hq).1; omega))
        have hs3 : w2.heap.size ≤ w3.heap.size := by have := hgrow.size; simp at this; omega
        have hl2 : (headsT l k).length + 1 = (headsT l (k + 1)).length := by rw [HE.out]; simp
        have HL2 := mkHid hl2
        clear hown' hgrow hat' hown'' hl2 c0 r0
        go_wp2
        go_roundw
        case rel => exact ⟨k + 1, some ⟨g', 0, none⟩, cap', by omega, by go_num, by rw [HL2.out], HO'.out, HF'.out, R1.out, HA'.out, hs3, HB'.out⟩
        case measure => simp [intOf]; omega
      · have HE := mkHid (headsT_no HX.out hx0)
        go_wp2
        go_roundw
        case rel =>
          refine ⟨k + 1, ao, cap, by omega, by go_num, by rw [HE.out], ?_, ?_, R0'.out, HA.out, hsz, HB.out⟩
          · rw [HE.out]; exact HO.out
          · rw [HE.out]; exact HF.out
        case measure => simp [intOf]; omega
    · have e : k = n := by omega
      subst e
      go_wp2
      go_ret
      have h1 := HO.out
      have e : headsL l = headsT l k := by unfold headsL; rw [HLEN.out]
      rw [e]
      exact ⟨ao, cap, rfl, h1.mono (Nat.le_succ _), HB.out⟩
end Go.Proofs.Ytpikgigfeifliaa
