/-
  CONTRACT of the specification's OrderText.
-/
import Derived.Test.YtpikgigfeifliaaDoorOrd
namespace Go.Proofs.YtpikgigfeifliaaDoor
open Go.RowKit

def endsL (l : List Int) (n k : Nat) : List Int := (List.range n).map fun p => (cntT l p k : Int)
theorem endsL_len (l : List Int) (n k : Nat) : (endsL l n k).length = n := by simp [endsL]
theorem endsL_get {l : List Int} {n k p : Nat} (h : p < n) : (endsL l n k)[p]? = some (cntT l p k : Int) := by simp [endsL, h]
theorem endsL_zero (l : List Int) (n : Nat) : (madeCells (Value.int .i64 0).cells (n * 1)).toList = ints (endsL l n 0) := by
  apply List.ext_getElem?
  intro q
  by_cases hq : q < n
  · rw [ints_get, endsL_get hq]
    simp [madeCells, Value.cells, hq, cntT, Nat.mod_one]
  · rw [List.getElem?_eq_none (by simp [madeCells]; omega), List.getElem?_eq_none (by rw [ints_len, endsL_len]; omega)]
theorem endsL_up {l : List Int} {n k q : Nat} (hx : l[k]? = some (q : Int)) (hq : q < n) : (endsL l n k).set q ((cntT l q k : Int) + 1) = endsL l n (k + 1) := by
  apply List.ext_getElem?
  intro p
  rw [List.getElem?_set]
  by_cases hp : p < n
  · rw [endsL_get hp, endsL_get hp]
    by_cases e : q = p
    · subst e
      rw [if_pos rfl, if_pos (by rw [endsL_len]; exact hq)]
      simp [cntT, hx]
    · rw [if_neg e]
      simp only [cntT, List.getD, hx, Option.getD_some]
      rw [if_neg (by omega), Nat.add_zero]
  · rw [if_neg (by omega), List.getElem?_eq_none (by rw [endsL_len]; omega), List.getElem?_eq_none (by rw [endsL_len]; omega)]
theorem endsL_same {l : List Int} {n k : Nat} {x : Int} (hx : l[k]? = some x) (h0 : ¬ 0 ≤ x) : endsL l n (k + 1) = endsL l n k := by
  unfold endsL
  apply List.map_congr_left
  intro p _
  simp only [cntT, List.getD, hx, Option.getD_some]
  rw [if_neg (by omega), Nat.add_zero]
def OwnB (w : World) (base : Nat) (v : Value) (bs : List UInt8) : Prop := w.ownsRowF base 5 1 v bs.length (Lib.byteCells bs)
theorem OwnB.below {w w' : World} {base : Nat} {v : Value} {bs : List UInt8} (h : OwnB w base v bs) (hb : Below w.heap.size w w') : OwnB w' base v bs :=
  World.ownsRowF.kept h (row := none) ⟨hb.os, hb.tape, hb.output, hb.size, fun k hk _ => hb.block k hk⟩ (by cases v.ownBlock <;> simp)
theorem OwnB.fresh {w' : World} {g base : Nat} (hb : base ≤ g) (hg : w'.heap[g]? = some (.cells #[] 5 (0, 0))) : OwnB w' base (.slice (some ⟨g, 0, none⟩) 0 0) [] :=
  ⟨rfl, .inr ⟨g, 0, #[], (0, 0), rfl, hb, hg, by simp, Nat.le_refl _, by unfold maxLen; omega, rfl, rfl⟩⟩
theorem OwnB.one {w' : World} {base : Nat} {v' : Value} {bs : List UInt8} {c : UInt8} {z : Int} {N : Nat} (hc : z = c.toNat) (hN : N = bs.length + 1) (h : w'.ownsRowF base 5 1 v' N (Lib.byteCells bs ++ [.int .u8 z])) : OwnB w' base v' (bs ++ [c]) := by
  unfold OwnB
  rw [Lib.byteCells_append, List.length_append]
  subst hc hN
  exact h
theorem OwnB.str {w' : World} {base : Nat} {v' : Value} {bs : List UInt8} {s : ByteArray} {N : Nat} (hN : N = bs.length + s.size) (h : w'.ownsRowF base 5 1 v' N (Lib.byteCells bs ++ Lib.strCells s)) : OwnB w' base v' (bs ++ s.data.toList) := by
  unfold OwnB
  rw [Lib.byteCells_append, List.length_append, ← Lib.size_eq]
  subst hN
  exact h
theorem OwnB.form {w : World} {base : Nat} {v : Value} {bs : List UInt8} (h : OwnB w base v bs) : ∃ ao cap, v = .slice ao bs.length cap := by
  rcases h.2 with ⟨rfl, h0⟩ | ⟨g, cap, cur, fz, rfl, _⟩
  · exact ⟨none, 0, by rw [h0]⟩
  · exact ⟨_, _, rfl⟩
theorem OwnB.lt {w : World} {base : Nat} {v : Value} {bs : List UInt8} (h : OwnB w base v bs) {q : Nat} (hq : v.ownBlock = some q) : base ≤ q ∧ q < w.heap.size := World.ownsRowF.lt h q hq
theorem IntsAt.get {w : World} {b o : Nat} {l : List Int} (h : IntsAt w (some ⟨b, o, none⟩) l) {i : Nat} {x : Int} (hx : l[i]? = some x) : w.cell? ⟨b, o + i, none⟩ = some (.int .i64 x) := by
  rcases h with h | ⟨b', o', e, h⟩
  · subst h; simp at hx
  · simp at e
    obtain ⟨rfl, rfl⟩ := e
    exact h i x hx
theorem one_new (w : World) (a : Value) (T : TypeId) (j : Nat) (u : Value) (h : [a][j]? = some u) : (w.alloc (.cells #[a] T)).cell? ((⟨w.heap.size, 0, none⟩ : Addr).add j) = some u := by
  rw [WideShapes.add_plain, Nat.zero_add, World.cell?_alloc_new]
  simpa using h
theorem dec_pos (n : Nat) : 1 ≤ (dec n).size := by
  by_cases h : n < 10
  · rw [dec_small h]; exact Nat.le_refl _
  · rw [dec_more h, ByteArray.size_append]
    have e : (ByteArray.mk #[UInt8.ofNat (48 + n % 10)]).size = 1 := rfl
    omega
theorem orderT_pos (l : List Int) {k : Nat} (h : 0 < k) : 0 < (orderT l k).length := by
  obtain ⟨j, rfl⟩ : ∃ j, k = j + 1 := ⟨k - 1, by omega⟩
  have := dec_pos j
  simp only [orderT, List.length_append, dec_len]
  omega
/-- A row of bytes becomes a string. -/
theorem conv_own {w : World} {base : Nat} {ao : Option Addr} {n cap : Nat} {bs : List UInt8} (h : OwnB w base (.slice ao n cap) bs) (h0 : 0 < bs.length) : Sem.run Tryd.prog (convert 37 9 (.slice ao n cap)) w = .ok (.string ⟨bs.toArray⟩) w := by
  rcases h.2 with ⟨_, hz⟩ | ⟨g, cap', cur, fz, e, _⟩
  · omega
  · simp at e
    obtain ⟨rfl, rfl, rfl⟩ := e
    refine run_convert_bytes_back (P := Tryd.prog) w 37 9 5 ⟨g, 0, none⟩ cap bs Tryd.underlying37 Tryd.underlying5 Tryd.underlying9 (fun i hi => ?_)
    rw [WideShapes.add_plain, Nat.zero_add]
    have := World.ownsRowF.cells h (g := g) rfl i (.int .u8 (bs[i].toNat : Int)) (by simp [Lib.byteCells, hi])
    rw [WideShapes.add_plain, Nat.zero_add] at this
    exact this

set_option maxRecDepth 100000 in
set_option maxHeartbeats 3200000 in
theorem sOrder_yes (n : Nat) (es : List Ed) (a : Option Addr) (c : Nat) (w : World) (hg : gokB (n : Int) es = true) (hl : KidsG w 0 a es) :
    Calls Tryd.prog 5 #[.agg #[.int .i64 n, .slice a es.length c]] w fun e w' => e = .returned (.string ⟨(orderT (lastsL n es) n).toArray⟩) ∧ Below w.heap.size w w' := by
  obtain ⟨hp, hn, _⟩ := all_of hg
  obtain ⟨p1, p2⟩ := btw_iff.1 hp
  obtain ⟨i0, hi0, hz⟩ := Option.map_eq_some_iff.1 Tryd.info3
  simp only [Prod.mk.injEq] at hz
  obtain ⟨hz0, hz1, hz2⟩ := hz
  have HI := mkHid (show Tryd.prog.info? 3 = some i0 ∧ i0.zero = some (.int .i64 0) ∧ i0.size = 1 ∧ i0.bytes = 8 from ⟨hi0, hz0, hz1, hz2⟩)
  obtain ⟨i5, hi5, hz⟩ := Option.map_eq_some_iff.1 Tryd.info5
  simp only [Prod.mk.injEq] at hz
  obtain ⟨hy0, hy1, hy2⟩ := hz
  have HJ := mkHid (show Tryd.prog.info? 5 = some i5 ∧ i5.zero = some (.int .u8 0) ∧ i5.size = 1 ∧ i5.bytes = 1 from ⟨hi5, hy0, hy1, hy2⟩)
  have HL := mkHid hl
  have HGK := mkHid hg
  have B0 := mkHid ((Below.refl w.heap.size w).alloc (Nat.le_refl _) (.cells #[.int .i64 n, .slice a es.length c] 29))
  have hfw := fwd_lasts hg
  obtain ⟨l, hll⟩ : ∃ l, lastsL n es = l := ⟨_, rfl⟩
  have hlen : l.length = n := by rw [← hll, lastsL_len]
  rw [hll] at hfw ⊢
  have HLL := mkHid hll
  have HLEN := mkHid hlen
  have HF := mkHid hfw
  clear hl hi0 hz0 hz1 hz2 hi5 hy0 hy1 hy2 hg hp hll hlen hfw
  go_enter Tryd.func5, Tryd.ntmps5
  go_wp2_with fail
  refine (sGraphOk_ok (n : Int) es a c _ (HL.out.below B0.out)).mono ?_
  rintro e w1 ⟨rfl, hb1⟩
  rw [HGK.out]
  have s1 : w.heap.size < w1.heap.size := by have := hb1.size; simp at this; omega
  have q0 : w1.cell? ⟨w.heap.size, 0, none⟩ = some (.int .i64 n) := (hb1.cell (p := ⟨w.heap.size, 0, none⟩) (by simp)).trans (by simp [go_sem])
  have q1 : w1.cell? ⟨w.heap.size, 1, none⟩ = some (.slice a es.length c) := (hb1.cell (p := ⟨w.heap.size, 1, none⟩) (by simp)).trans (by simp [go_sem])
  have B1 := mkHid (below_step B0.out hb1)
  have HQ := mkHid q0
  clear hb1 B0
  go_wp2_with fail
  refine (sLasts_ok n es a c _ HGK.out (HL.out.below B1.out)).mono ?_
  rintro e w2 ⟨g, gc, rfl, ho, hb2⟩
  rw [HLL.out] at ho
  have r0 : w2.cell? ⟨w.heap.size, 0, none⟩ = some (.int .i64 n) := (hb2.cell (p := ⟨w.heap.size, 0, none⟩) s1).trans HQ.out
  have s2 := hb2.size
  have hgl := (World.ownsRow.lt ho g rfl).2
  have HO := mkHid ho.at
  have B2 := mkHid (below_step B1.out hb2)
  have R0 := mkHid r0
  obtain ⟨w3, hmk, hown0, hg0⟩ := run_make_full (P := Tryd.prog) w2 w2.heap.size 35 3 i0 _ 1 Tryd.underlying35 HI.out.1 HI.out.2.1 HI.out.2.2.1 .i64 .i64 n (by rw [HI.out.2.2.2]; omega) (by unfold maxLen; omega) (Nat.le_refl _)
  rw [endsL_zero l n] at hown0
  have HW := mkHid hown0
  have HG := mkHid (Below.grown (Below.refl w2.heap.size w2) hg0 (Nat.le_refl _) (fun k hk => by cases hk))
  clear hb2 ho B1 HQ q0 q1 hown0 hg0
  go_wp2
  go_loopw [5] (fun i V => ∃ (k : Nat), k ≤ n ∧ i = .int .i64 k ∧ V.ownsRow w2.heap.size 3 1 (.slice (some ⟨w2.heap.size, 0, none⟩) n n) n (ints (endsL l n k)) ∧ Below w2.heap.size w2 V) (fun i _ => n - (intOf i).toNat)
  case atStart => exact ⟨0, Nat.zero_le _, rfl, HW.out, HG.out⟩
  case round =>
    clear r0 hmk
    obtain ⟨k, hk, rfl, hown, hbel⟩ := hrel
    have HV := mkHid hown
    have HB := mkHid hbel
    have r0 : wr.cell? ⟨w.heap.size, 0, none⟩ = some (.int .i64 n) := (hbel.cell (p := ⟨w.heap.size, 0, none⟩) (by dsimp only; omega)).trans R0.out
    clear hown hbel HW HG
    by_cases hlt : k < n
    · obtain ⟨x, hx⟩ : ∃ x, l[k]? = some x := ⟨_, List.getElem?_eq_getElem (by rw [HLEN.out]; exact hlt)⟩
      have c0 : wr.cell? ⟨g, k, none⟩ = some (.int .i64 x) := (HB.out.cell (p := ⟨g, k, none⟩) hgl).trans (by have := HO.out.get hx; rwa [Nat.zero_add] at this)
      have k3 : (k : Int) < (n : Int) := by omega
      have hfx := HF.out k x hx
      rw [HLEN.out] at hfx
      have HX := mkHid hx
      clear hx
      by_cases hx0 : 0 ≤ x
      · obtain ⟨q, rfl⟩ : ∃ q : Nat, x = q := ⟨x.toNat, by omega⟩
        have hq : q < n := by omega
        have j2 : (q : Int) < (n : Int) := by omega
        have hcq := cntT_le l q k
        have e0 : wr.cell? ⟨w2.heap.size, q, none⟩ = some (.int .i64 (cntT l q k)) := by rw [HV.out.cellAt q (by omega), ints_get, endsL_get hq]; rfl
        have f0 := HV.out.frozenAt q
        clear hfx
        go_wp2
        go_roundw
        case rel =>
          have hs := HV.out.stored q (.int .i64 ((cntT l q k : Int) + 1))
          rw [ints_set, endsL_up HX.out hq] at hs
          exact ⟨k + 1, by omega, by go_num, hs.1, HB.out.setCell (p := ⟨w2.heap.size, q, none⟩) (Nat.le_refl _) _⟩
        case measure => simp [intOf]; omega
      · have HS := mkHid (endsL_same (n := n) HX.out hx0)
        go_wp2
        go_roundw
        case rel => exact ⟨k + 1, by omega, by go_num, by rw [HS.out]; exact HV.out, HB.out⟩
        case measure => simp [intOf]; omega
    · have e : k = n := by omega
      subst e
      obtain ⟨Wc, rfl⟩ : ∃ Wc, Wc = wr := ⟨wr, rfl⟩
      have szc := HB.out.size
      have hwe : w2.heap.size < Wc.heap.size := (World.ownsRow.lt HV.out _ rfl).2
      have BA := mkHid ((Below.refl Wc.heap.size Wc).alloc (Nat.le_refl _) (.cells #[] 5))
      have BWc : Hid (Below w.heap.size w Wc) := mkHid (B2.out.trans (HB.out.mono (by omega)))
      have RD : Hid (∀ V, Below Wc.heap.size Wc V → ∀ (j : Nat) (x : Int), l[j]? = some x → j < k → V.cell? ⟨g, j, none⟩ = some (.int .i64 x) ∧ V.cell? ⟨w2.heap.size, j, none⟩ = some (.int .i64 (cntT l j k)) ∧ V.cell? ⟨w.heap.size, 0, none⟩ = some (.int .i64 k)) := mkHid fun V hV j x hx hj =>
        ⟨(hV.cell (p := ⟨g, j, none⟩) (by dsimp only; omega)).trans ((HB.out.cell (p := ⟨g, j, none⟩) hgl).trans (by have := HO.out.get hx; rwa [Nat.zero_add] at this)), (hV.cell (p := ⟨w2.heap.size, j, none⟩) hwe).trans (by rw [HV.out.cellAt j (by omega), ints_get, endsL_get hj]; rfl), (hV.cell (p := ⟨w.heap.size, 0, none⟩) (by dsimp only; omega)).trans r0⟩
      have RN : Hid (∀ V, Below Wc.heap.size Wc V → V.cell? ⟨w.heap.size, 0, none⟩ = some (.int .i64 k)) := mkHid fun V hV => (hV.cell (p := ⟨w.heap.size, 0, none⟩) (by dsimp only; omega)).trans r0
      have hl3 : l.length ≤ 3000 := by have := HLEN.out; omega
      go_wp2
      go_loopw [6, 7] (fun o i V => ∃ (m : Nat) (oa : Option Addr) (oc : Nat), m ≤ k ∧ i = .int .i64 m ∧ o = .slice oa (orderT l m).length oc ∧ OwnB V Wc.heap.size (.slice oa (orderT l m).length oc) (orderT l m) ∧ Below Wc.heap.size Wc V) (fun _ i _ => k - (intOf i).toNat)
      case atStart => exact ⟨0, _, 0, Nat.zero_le _, rfl, rfl, OwnB.fresh (Nat.le_refl _) (heap_alloc_new Wc _), BA.out⟩
      case round =>
        clear r0
        obtain ⟨m, oa, oc, hm, rfl, rfl, hown, hbel⟩ := hrel
        have U := mkHid hown
        have HC := mkHid hbel
        have hol := orderT_len l hl3 m (by omega)
        have hsz := hbel.size
        clear hown hbel
        by_cases hlt2 : m < k
        · obtain ⟨x, hx⟩ : ∃ x, l[m]? = some x := ⟨_, List.getElem?_eq_getElem (by rw [HLEN.out]; exact hlt2)⟩
          have m3 : (m : Int) < (k : Int) := by omega
          have hcm := cntT_le l m k
          have HX := mkHid hx
          have HCL : Hid (cntT l m l.length = cntT l m k) := mkHid (by rw [HLEN.out])
          have hdm := dec_size m
          clear hx
          by_cases hk0 : 0 < (m : Int)
          · by_cases hx0 : 0 ≤ x
            · obtain ⟨c0, e0, r0⟩ := RD.out wr HC.out m x HX.out hlt2
              go_wp2_with (at_builtin; refine wpList_append_ownF _ rfl _ _ 37 rfl Wc.heap.size 5 i5 (.int .u8 0) 1 1 Tryd.underlying37 HJ.out.1 HJ.out.2.1 HJ.out.2.2.1 HJ.out.2.2.2 rfl (by decide) _ _ _ rfl (World.ownsRowF.alloc U.out _) ⟨wr.heap.size, 0, none⟩ 1 1 [.int .u8 32] rfl rfl (one_new _ _ _) (by simp [Value.oneCell']) (by unfold maxLen; omega) (by omega) (by simp; omega) ?_)
              intro v' V1 hown' hgrow _
              have h1 := OwnB.one (c := 32) (bs := orderT l m) rfl rfl hown'
              obtain ⟨oa', oc', rfl⟩ := h1.form
              obtain ⟨tV1, hN⟩ : ∃ t, t = orderT l m ++ [(32 : UInt8)] := ⟨_, rfl⟩
              rw [← hN] at h1 ⊢
              have U1 := mkHid h1
              have hN2V1 : tV1.length ≤ 18009001 := by rw [hN, List.length_append]; simp; omega
              have HTV1 := mkHid hN
              have H1 : Hid (Below Wc.heap.size Wc V1) := mkHid ((HC.out.alloc HC.out.size _).grown hgrow (by simp; omega) (fun q hq => (U.out.lt hq).1))
              have zV1 : Wc.heap.size ≤ V1.heap.size := H1.out.size
              clear hown' hgrow h1 hN c0 e0 r0
              obtain ⟨c1, e1, r1⟩ := RD.out V1 H1.out m x HX.out hlt2
              go_wp2_with (at_builtin; refine wpList_append_ownF _ rfl _ _ 37 rfl Wc.heap.size 5 i5 (.int .u8 0) 1 1 Tryd.underlying37 HJ.out.1 HJ.out.2.1 HJ.out.2.2.1 HJ.out.2.2.2 rfl (by decide) _ _ _ rfl (World.ownsRowF.alloc U1.out _) ⟨V1.heap.size, 0, none⟩ 1 1 [.int .u8 40] rfl rfl (one_new _ _ _) (by simp [Value.oneCell']) (by unfold maxLen; omega) (by omega) (by simp; omega) ?_)
              intro v' V2 hown' hgrow _
              have h1 := OwnB.one (c := 40) (bs := tV1) rfl rfl hown'
              obtain ⟨oa', oc', rfl⟩ := h1.form
              obtain ⟨tV2, hN⟩ : ∃ t, t = tV1 ++ [(40 : UInt8)] := ⟨_, rfl⟩
              rw [← hN] at h1 ⊢
              have U2 := mkHid h1
              have hN2V2 : tV2.length ≤ 18009002 := by rw [hN, List.length_append]; simp; omega
              have HTV2 := mkHid hN
              have H2 : Hid (Below Wc.heap.size Wc V2) := mkHid ((H1.out.alloc H1.out.size _).grown hgrow (by simp; omega) (fun q hq => (U1.out.lt hq).1))
              have zV2 : Wc.heap.size ≤ V2.heap.size := H2.out.size
              clear hown' hgrow h1 hN c1 e1 r1
              obtain ⟨c2, e2, r2⟩ := RD.out V2 H2.out m x HX.out hlt2
              go_wp2_with fail
              refine (digits_any m _ (by omega)).mono ?_
              rintro e V3 ⟨rfl, hb3⟩
              have U3 := mkHid (U2.out.below hb3)
              have H3 : Hid (Below Wc.heap.size Wc V3) := mkHid (H2.out.trans (hb3.mono H2.out.size))
              have z3 : Wc.heap.size ≤ V3.heap.size := H3.out.size
              clear hb3 c2 e2 r2
              go_wp2_with (at_builtin; refine Lib.wpList_append_own_stringF _ rfl _ _ 37 9 rfl Wc.heap.size 5 i5 Tryd.underlying37 Tryd.underlying9 HJ.out.1 HJ.out.2.1 HJ.out.2.2.1 HJ.out.2.2.2 _ _ _ rfl U3.out (dec m) rfl (by unfold maxLen; omega) (by omega) (by omega) ?_)
              intro v' V4 hown' hgrow _
              have h1 := OwnB.str (bs := tV2) rfl hown'
              obtain ⟨oa', oc', rfl⟩ := h1.form
              obtain ⟨txt, htxt⟩ : ∃ txt, txt = tV2 ++ (dec m).data.toList := ⟨_, rfl⟩
              rw [← htxt] at h1 ⊢
              have htl : txt.length ≤ 18020000 := by rw [htxt, List.length_append, dec_len]; omega
              have U4 := mkHid h1
              have H4 : Hid (Below Wc.heap.size Wc V4) := mkHid (H3.out.grown hgrow (by omega) (fun q hq => (U3.out.lt hq).1))
              have z4 : Wc.heap.size ≤ V4.heap.size := H4.out.size
              have HNX : Hid (orderT l (m + 1) = txt ++ List.replicate (cntT l m k) 41) := mkHid (by
                rw [orderT_succ' HX.out, HCL.out, if_pos (by omega), if_pos (by omega), htxt, HTV2.out, HTV1.out]
                simp)
              clear hown' hgrow h1 htxt
              go_wp2
              go_loopw [6, 8] (fun o i V => ∃ (j : Nat) (oa : Option Addr) (oc : Nat), j ≤ cntT l m k ∧ i = .int .i64 j ∧ o = .slice oa (txt.length + j) oc ∧ OwnB V Wc.heap.size (.slice oa (txt.length + j) oc) (txt ++ List.replicate j 41) ∧ Below Wc.heap.size Wc V) (fun _ i _ => cntT l m k - (intOf i).toNat)
              case atStart => exact ⟨0, oa', oc', Nat.zero_le _, rfl, rfl, by simpa using U4.out, H4.out⟩
              case round =>
                obtain ⟨j, ja, jc, hj, rfl, rfl, hown, hbel⟩ := hrel
                have U5 := mkHid hown
                have H5 := mkHid hbel
                have z5 := hbel.size
                obtain ⟨c5, e5, r5⟩ := RD.out wr hbel m x HX.out hlt2
                clear hown hbel
                by_cases hjl : j < cntT l m k
                · have j3 : (j : Int) < (cntT l m k : Int) := by omega
                  go_wp2_with (at_builtin; refine wpList_append_ownF _ rfl _ _ 37 rfl Wc.heap.size 5 i5 (.int .u8 0) 1 1 Tryd.underlying37 HJ.out.1 HJ.out.2.1 HJ.out.2.2.1 HJ.out.2.2.2 rfl (by decide) _ _ _ rfl (World.ownsRowF.alloc U5.out _) ⟨wr.heap.size, 0, none⟩ 1 1 [.int .u8 41] rfl rfl (one_new _ _ _) (by simp [Value.oneCell']) (by rw [List.length_append, List.length_replicate]; unfold maxLen; omega) (by rw [List.length_append, List.length_replicate]; omega) (by simp; omega) ?_)
                  intro v' V6 hown' hgrow _
                  have h1 := OwnB.one (c := 41) (bs := txt ++ List.replicate j 41) rfl (show txt.length + j + 1 = (txt ++ List.replicate j 41).length + 1 by simp) hown'
                  obtain ⟨oa6, oc6, e6⟩ := h1.form
                  have e7 : (txt ++ List.replicate j 41 ++ [(41 : UInt8)]).length = txt.length + (j + 1) := by simp <;> omega
                  rw [e7] at e6
                  subst e6
                  have U6 : Hid (OwnB V6 Wc.heap.size (.slice oa6 (txt.length + (j + 1)) oc6) (txt ++ List.replicate (j + 1) 41)) := mkHid (by rw [List.replicate_succ', ← List.append_assoc]; exact h1)
                  have H6 : Hid (Below Wc.heap.size Wc V6) := mkHid ((H5.out.alloc H5.out.size _).grown hgrow (by simp; omega) (fun q hq => (U5.out.lt hq).1))
                  clear hown' hgrow h1 c5 e5 r5 e7
                  go_wp2
                  go_roundw
                  case rel => exact ⟨j + 1, oa6, oc6, by omega, by go_num, rfl, U6.out, H6.out⟩
                  case measure => simp [intOf]; omega
                · have hjj : j = cntT l m k := by omega
                  have HJJ := mkHid hjj
                  have hnl : (orderT l (m + 1)).length = txt.length + j := by rw [HNX.out, ← hjj]; simp
                  have U7 : Hid (OwnB wr Wc.heap.size (.slice ja (txt.length + j) jc) (orderT l (m + 1))) := mkHid (by rw [HNX.out, ← hjj]; exact U5.out)
                  have HNL := mkHid hnl
                  clear hjj hnl
                  go_wp2
                  go_roundw
                  case rel => exact ⟨m + 1, ja, jc, by omega, by go_num, by rw [HNL.out], by rw [HNL.out]; exact U7.out, H5.out⟩
                  case measure => simp [intOf]; omega
            · obtain ⟨c0, e0, r0⟩ := RD.out wr HC.out m x HX.out hlt2
              go_wp2_with (at_builtin; refine wpList_append_ownF _ rfl _ _ 37 rfl Wc.heap.size 5 i5 (.int .u8 0) 1 1 Tryd.underlying37 HJ.out.1 HJ.out.2.1 HJ.out.2.2.1 HJ.out.2.2.2 rfl (by decide) _ _ _ rfl (World.ownsRowF.alloc U.out _) ⟨wr.heap.size, 0, none⟩ 1 1 [.int .u8 32] rfl rfl (one_new _ _ _) (by simp [Value.oneCell']) (by unfold maxLen; omega) (by omega) (by simp; omega) ?_)
              intro v' V1 hown' hgrow _
              have h1 := OwnB.one (c := 32) (bs := orderT l m) rfl rfl hown'
              obtain ⟨oa', oc', rfl⟩ := h1.form
              obtain ⟨tV1, hN⟩ : ∃ t, t = orderT l m ++ [(32 : UInt8)] := ⟨_, rfl⟩
              rw [← hN] at h1 ⊢
              have U1 := mkHid h1
              have hN2V1 : tV1.length ≤ 18009001 := by rw [hN, List.length_append]; simp; omega
              have HTV1 := mkHid hN
              have H1 : Hid (Below Wc.heap.size Wc V1) := mkHid ((HC.out.alloc HC.out.size _).grown hgrow (by simp; omega) (fun q hq => (U.out.lt hq).1))
              have zV1 : Wc.heap.size ≤ V1.heap.size := H1.out.size
              clear hown' hgrow h1 hN c0 e0 r0
              obtain ⟨c1, e1, r1⟩ := RD.out V1 H1.out m x HX.out hlt2
              go_wp2_with fail
              refine (digits_any m _ (by omega)).mono ?_
              rintro e V3 ⟨rfl, hb3⟩
              have U3 := mkHid (U1.out.below hb3)
              have H3 : Hid (Below Wc.heap.size Wc V3) := mkHid (H1.out.trans (hb3.mono H1.out.size))
              have z3 : Wc.heap.size ≤ V3.heap.size := H3.out.size
              clear hb3 c1 e1 r1
              go_wp2_with (at_builtin; refine Lib.wpList_append_own_stringF _ rfl _ _ 37 9 rfl Wc.heap.size 5 i5 Tryd.underlying37 Tryd.underlying9 HJ.out.1 HJ.out.2.1 HJ.out.2.2.1 HJ.out.2.2.2 _ _ _ rfl U3.out (dec m) rfl (by unfold maxLen; omega) (by omega) (by omega) ?_)
              intro v' V4 hown' hgrow _
              have h1 := OwnB.str (bs := tV1) rfl hown'
              obtain ⟨oa', oc', rfl⟩ := h1.form
              obtain ⟨txt, htxt⟩ : ∃ txt, txt = tV1 ++ (dec m).data.toList := ⟨_, rfl⟩
              rw [← htxt] at h1 ⊢
              have htl : txt.length ≤ 18020000 := by rw [htxt, List.length_append, dec_len]; omega
              have U4 := mkHid h1
              have H4 : Hid (Below Wc.heap.size Wc V4) := mkHid (H3.out.grown hgrow (by omega) (fun q hq => (U3.out.lt hq).1))
              have z4 : Wc.heap.size ≤ V4.heap.size := H4.out.size
              have HNX : Hid (orderT l (m + 1) = txt ++ List.replicate (cntT l m k) 41) := mkHid (by
                rw [orderT_succ' HX.out, HCL.out, if_pos (by omega), if_neg (by omega), htxt, HTV1.out]
                simp)
              clear hown' hgrow h1 htxt
              go_wp2
              go_loopw [6, 8] (fun o i V => ∃ (j : Nat) (oa : Option Addr) (oc : Nat), j ≤ cntT l m k ∧ i = .int .i64 j ∧ o = .slice oa (txt.length + j) oc ∧ OwnB V Wc.heap.size (.slice oa (txt.length + j) oc) (txt ++ List.replicate j 41) ∧ Below Wc.heap.size Wc V) (fun _ i _ => cntT l m k - (intOf i).toNat)
              case atStart => exact ⟨0, oa', oc', Nat.zero_le _, rfl, rfl, by simpa using U4.out, H4.out⟩
              case round =>
                obtain ⟨j, ja, jc, hj, rfl, rfl, hown, hbel⟩ := hrel
                have U5 := mkHid hown
                have H5 := mkHid hbel
                have z5 := hbel.size
                obtain ⟨c5, e5, r5⟩ := RD.out wr hbel m x HX.out hlt2
                clear hown hbel
                by_cases hjl : j < cntT l m k
                · have j3 : (j : Int) < (cntT l m k : Int) := by omega
                  go_wp2_with (at_builtin; refine wpList_append_ownF _ rfl _ _ 37 rfl Wc.heap.size 5 i5 (.int .u8 0) 1 1 Tryd.underlying37 HJ.out.1 HJ.out.2.1 HJ.out.2.2.1 HJ.out.2.2.2 rfl (by decide) _ _ _ rfl (World.ownsRowF.alloc U5.out _) ⟨wr.heap.size, 0, none⟩ 1 1 [.int .u8 41] rfl rfl (one_new _ _ _) (by simp [Value.oneCell']) (by rw [List.length_append, List.length_replicate]; unfold maxLen; omega) (by rw [List.length_append, List.length_replicate]; omega) (by simp; omega) ?_)
                  intro v' V6 hown' hgrow _
                  have h1 := OwnB.one (c := 41) (bs := txt ++ List.replicate j 41) rfl (show txt.length + j + 1 = (txt ++ List.replicate j 41).length + 1 by simp) hown'
                  obtain ⟨oa6, oc6, e6⟩ := h1.form
                  have e7 : (txt ++ List.replicate j 41 ++ [(41 : UInt8)]).length = txt.length + (j + 1) := by simp <;> omega
                  rw [e7] at e6
                  subst e6
                  have U6 : Hid (OwnB V6 Wc.heap.size (.slice oa6 (txt.length + (j + 1)) oc6) (txt ++ List.replicate (j + 1) 41)) := mkHid (by rw [List.replicate_succ', ← List.append_assoc]; exact h1)
                  have H6 : Hid (Below Wc.heap.size Wc V6) := mkHid ((H5.out.alloc H5.out.size _).grown hgrow (by simp; omega) (fun q hq => (U5.out.lt hq).1))
                  clear hown' hgrow h1 c5 e5 r5 e7
                  go_wp2
                  go_roundw
                  case rel => exact ⟨j + 1, oa6, oc6, by omega, by go_num, rfl, U6.out, H6.out⟩
                  case measure => simp [intOf]; omega
                · have hjj : j = cntT l m k := by omega
                  have HJJ := mkHid hjj
                  have hnl : (orderT l (m + 1)).length = txt.length + j := by rw [HNX.out, ← hjj]; simp
                  have U7 : Hid (OwnB wr Wc.heap.size (.slice ja (txt.length + j) jc) (orderT l (m + 1))) := mkHid (by rw [HNX.out, ← hjj]; exact U5.out)
                  have HNL := mkHid hnl
                  clear hjj hnl
                  go_wp2
                  go_roundw
                  case rel => exact ⟨m + 1, ja, jc, by omega, by go_num, by rw [HNL.out], by rw [HNL.out]; exact U7.out, H5.out⟩
                  case measure => simp [intOf]; omega
          · by_cases hx0 : 0 ≤ x
            · obtain ⟨c0, e0, r0⟩ := RD.out wr HC.out m x HX.out hlt2
              go_wp2_with (at_builtin; refine wpList_append_ownF _ rfl _ _ 37 rfl Wc.heap.size 5 i5 (.int .u8 0) 1 1 Tryd.underlying37 HJ.out.1 HJ.out.2.1 HJ.out.2.2.1 HJ.out.2.2.2 rfl (by decide) _ _ _ rfl (World.ownsRowF.alloc U.out _) ⟨wr.heap.size, 0, none⟩ 1 1 [.int .u8 40] rfl rfl (one_new _ _ _) (by simp [Value.oneCell']) (by unfold maxLen; omega) (by omega) (by simp; omega) ?_)
              intro v' V2 hown' hgrow _
              have h1 := OwnB.one (c := 40) (bs := orderT l m) rfl rfl hown'
              obtain ⟨oa', oc', rfl⟩ := h1.form
              obtain ⟨tV2, hN⟩ : ∃ t, t = orderT l m ++ [(40 : UInt8)] := ⟨_, rfl⟩
              rw [← hN] at h1 ⊢
              have U2 := mkHid h1
              have hN2V2 : tV2.length ≤ 18009002 := by rw [hN, List.length_append]; simp; omega
              have HTV2 := mkHid hN
              have H2 : Hid (Below Wc.heap.size Wc V2) := mkHid ((HC.out.alloc HC.out.size _).grown hgrow (by simp; omega) (fun q hq => (U.out.lt hq).1))
              have zV2 : Wc.heap.size ≤ V2.heap.size := H2.out.size
              clear hown' hgrow h1 hN c0 e0 r0
              obtain ⟨c2, e2, r2⟩ := RD.out V2 H2.out m x HX.out hlt2
              go_wp2_with fail
              refine (digits_any m _ (by omega)).mono ?_
              rintro e V3 ⟨rfl, hb3⟩
              have U3 := mkHid (U2.out.below hb3)
              have H3 : Hid (Below Wc.heap.size Wc V3) := mkHid (H2.out.trans (hb3.mono H2.out.size))
              have z3 : Wc.heap.size ≤ V3.heap.size := H3.out.size
              clear hb3 c2 e2 r2
              go_wp2_with (at_builtin; refine Lib.wpList_append_own_stringF _ rfl _ _ 37 9 rfl Wc.heap.size 5 i5 Tryd.underlying37 Tryd.underlying9 HJ.out.1 HJ.out.2.1 HJ.out.2.2.1 HJ.out.2.2.2 _ _ _ rfl U3.out (dec m) rfl (by unfold maxLen; omega) (by omega) (by omega) ?_)
              intro v' V4 hown' hgrow _
              have h1 := OwnB.str (bs := tV2) rfl hown'
              obtain ⟨oa', oc', rfl⟩ := h1.form
              obtain ⟨txt, htxt⟩ : ∃ txt, txt = tV2 ++ (dec m).data.toList := ⟨_, rfl⟩
              rw [← htxt] at h1 ⊢
              have htl : txt.length ≤ 18020000 := by rw [htxt, List.length_append, dec_len]; omega
              have U4 := mkHid h1
              have H4 : Hid (Below Wc.heap.size Wc V4) := mkHid (H3.out.grown hgrow (by omega) (fun q hq => (U3.out.lt hq).1))
              have z4 : Wc.heap.size ≤ V4.heap.size := H4.out.size
              have HNX : Hid (orderT l (m + 1) = txt ++ List.replicate (cntT l m k) 41) := mkHid (by
                rw [orderT_succ' HX.out, HCL.out, if_neg (by omega), if_pos (by omega), htxt, HTV2.out]
                simp)
              clear hown' hgrow h1 htxt
              go_wp2
              go_loopw [6, 8] (fun o i V => ∃ (j : Nat) (oa : Option Addr) (oc : Nat), j ≤ cntT l m k ∧ i = .int .i64 j ∧ o = .slice oa (txt.length + j) oc ∧ OwnB V Wc.heap.size (.slice oa (txt.length + j) oc) (txt ++ List.replicate j 41) ∧ Below Wc.heap.size Wc V) (fun _ i _ => cntT l m k - (intOf i).toNat)
              case atStart => exact ⟨0, oa', oc', Nat.zero_le _, rfl, rfl, by simpa using U4.out, H4.out⟩
              case round =>
                obtain ⟨j, ja, jc, hj, rfl, rfl, hown, hbel⟩ := hrel
                have U5 := mkHid hown
                have H5 := mkHid hbel
                have z5 := hbel.size
                obtain ⟨c5, e5, r5⟩ := RD.out wr hbel m x HX.out hlt2
                clear hown hbel
                by_cases hjl : j < cntT l m k
                · have j3 : (j : Int) < (cntT l m k : Int) := by omega
                  go_wp2_with (at_builtin; refine wpList_append_ownF _ rfl _ _ 37 rfl Wc.heap.size 5 i5 (.int .u8 0) 1 1 Tryd.underlying37 HJ.out.1 HJ.out.2.1 HJ.out.2.2.1 HJ.out.2.2.2 rfl (by decide) _ _ _ rfl (World.ownsRowF.alloc U5.out _) ⟨wr.heap.size, 0, none⟩ 1 1 [.int .u8 41] rfl rfl (one_new _ _ _) (by simp [Value.oneCell']) (by rw [List.length_append, List.length_replicate]; unfold maxLen; omega) (by rw [List.length_append, List.length_replicate]; omega) (by simp; omega) ?_)
                  intro v' V6 hown' hgrow _
                  have h1 := OwnB.one (c := 41) (bs := txt ++ List.replicate j 41) rfl (show txt.length + j + 1 = (txt ++ List.replicate j 41).length + 1 by simp) hown'
                  obtain ⟨oa6, oc6, e6⟩ := h1.form
                  have e7 : (txt ++ List.replicate j 41 ++ [(41 : UInt8)]).length = txt.length + (j + 1) := by simp <;> omega
                  rw [e7] at e6
                  subst e6
                  have U6 : Hid (OwnB V6 Wc.heap.size (.slice oa6 (txt.length + (j + 1)) oc6) (txt ++ List.replicate (j + 1) 41)) := mkHid (by rw [List.replicate_succ', ← List.append_assoc]; exact h1)
                  have H6 : Hid (Below Wc.heap.size Wc V6) := mkHid ((H5.out.alloc H5.out.size _).grown hgrow (by simp; omega) (fun q hq => (U5.out.lt hq).1))
                  clear hown' hgrow h1 c5 e5 r5 e7
                  go_wp2
                  go_roundw
                  case rel => exact ⟨j + 1, oa6, oc6, by omega, by go_num, rfl, U6.out, H6.out⟩
                  case measure => simp [intOf]; omega
                · have hjj : j = cntT l m k := by omega
                  have HJJ := mkHid hjj
                  have hnl : (orderT l (m + 1)).length = txt.length + j := by rw [HNX.out, ← hjj]; simp
                  have U7 : Hid (OwnB wr Wc.heap.size (.slice ja (txt.length + j) jc) (orderT l (m + 1))) := mkHid (by rw [HNX.out, ← hjj]; exact U5.out)
                  have HNL := mkHid hnl
                  clear hjj hnl
                  go_wp2
                  go_roundw
                  case rel => exact ⟨m + 1, ja, jc, by omega, by go_num, by rw [HNL.out], by rw [HNL.out]; exact U7.out, H5.out⟩
                  case measure => simp [intOf]; omega
            · obtain ⟨c0, e0, r0⟩ := RD.out wr HC.out m x HX.out hlt2
              go_wp2_with fail
              refine (digits_any m _ (by omega)).mono ?_
              rintro e V3 ⟨rfl, hb3⟩
              have U3 := mkHid (U.out.below hb3)
              have H3 : Hid (Below Wc.heap.size Wc V3) := mkHid (HC.out.trans (hb3.mono HC.out.size))
              have z3 : Wc.heap.size ≤ V3.heap.size := H3.out.size
              clear hb3 c0 e0 r0
              go_wp2_with (at_builtin; refine Lib.wpList_append_own_stringF _ rfl _ _ 37 9 rfl Wc.heap.size 5 i5 Tryd.underlying37 Tryd.underlying9 HJ.out.1 HJ.out.2.1 HJ.out.2.2.1 HJ.out.2.2.2 _ _ _ rfl U3.out (dec m) rfl (by unfold maxLen; omega) (by omega) (by omega) ?_)
              intro v' V4 hown' hgrow _
              have h1 := OwnB.str (bs := orderT l m) rfl hown'
              obtain ⟨oa', oc', rfl⟩ := h1.form
              obtain ⟨txt, htxt⟩ : ∃ txt, txt = orderT l m ++ (dec m).data.toList := ⟨_, rfl⟩
              rw [← htxt] at h1 ⊢
              have htl : txt.length ≤ 18020000 := by rw [htxt, List.length_append, dec_len]; omega
              have U4 := mkHid h1
              have H4 : Hid (Below Wc.heap.size Wc V4) := mkHid (H3.out.grown hgrow (by omega) (fun q hq => (U3.out.lt hq).1))
              have z4 : Wc.heap.size ≤ V4.heap.size := H4.out.size
              have HNX : Hid (orderT l (m + 1) = txt ++ List.replicate (cntT l m k) 41) := mkHid (by
                rw [orderT_succ' HX.out, HCL.out, if_neg (by omega), if_neg (by omega), htxt]
                simp)
              clear hown' hgrow h1 htxt
              go_wp2
              go_loopw [6, 8] (fun o i V => ∃ (j : Nat) (oa : Option Addr) (oc : Nat), j ≤ cntT l m k ∧ i = .int .i64 j ∧ o = .slice oa (txt.length + j) oc ∧ OwnB V Wc.heap.size (.slice oa (txt.length + j) oc) (txt ++ List.replicate j 41) ∧ Below Wc.heap.size Wc V) (fun _ i _ => cntT l m k - (intOf i).toNat)
              case atStart => exact ⟨0, oa', oc', Nat.zero_le _, rfl, rfl, by simpa using U4.out, H4.out⟩
              case round =>
                obtain ⟨j, ja, jc, hj, rfl, rfl, hown, hbel⟩ := hrel
                have U5 := mkHid hown
                have H5 := mkHid hbel
                have z5 := hbel.size
                obtain ⟨c5, e5, r5⟩ := RD.out wr hbel m x HX.out hlt2
                clear hown hbel
                by_cases hjl : j < cntT l m k
                · have j3 : (j : Int) < (cntT l m k : Int) := by omega
                  go_wp2_with (at_builtin; refine wpList_append_ownF _ rfl _ _ 37 rfl Wc.heap.size 5 i5 (.int .u8 0) 1 1 Tryd.underlying37 HJ.out.1 HJ.out.2.1 HJ.out.2.2.1 HJ.out.2.2.2 rfl (by decide) _ _ _ rfl (World.ownsRowF.alloc U5.out _) ⟨wr.heap.size, 0, none⟩ 1 1 [.int .u8 41] rfl rfl (one_new _ _ _) (by simp [Value.oneCell']) (by rw [List.length_append, List.length_replicate]; unfold maxLen; omega) (by rw [List.length_append, List.length_replicate]; omega) (by simp; omega) ?_)
                  intro v' V6 hown' hgrow _
                  have h1 := OwnB.one (c := 41) (bs := txt ++ List.replicate j 41) rfl (show txt.length + j + 1 = (txt ++ List.replicate j 41).length + 1 by simp) hown'
                  obtain ⟨oa6, oc6, e6⟩ := h1.form
                  have e7 : (txt ++ List.replicate j 41 ++ [(41 : UInt8)]).length = txt.length + (j + 1) := by simp <;> omega
                  rw [e7] at e6
                  subst e6
                  have U6 : Hid (OwnB V6 Wc.heap.size (.slice oa6 (txt.length + (j + 1)) oc6) (txt ++ List.replicate (j + 1) 41)) := mkHid (by rw [List.replicate_succ', ← List.append_assoc]; exact h1)
                  have H6 : Hid (Below Wc.heap.size Wc V6) := mkHid ((H5.out.alloc H5.out.size _).grown hgrow (by simp; omega) (fun q hq => (U5.out.lt hq).1))
                  clear hown' hgrow h1 c5 e5 r5 e7
                  go_wp2
                  go_roundw
                  case rel => exact ⟨j + 1, oa6, oc6, by omega, by go_num, rfl, U6.out, H6.out⟩
                  case measure => simp [intOf]; omega
                · have hjj : j = cntT l m k := by omega
                  have HJJ := mkHid hjj
                  have hnl : (orderT l (m + 1)).length = txt.length + j := by rw [HNX.out, ← hjj]; simp
                  have U7 : Hid (OwnB wr Wc.heap.size (.slice ja (txt.length + j) jc) (orderT l (m + 1))) := mkHid (by rw [HNX.out, ← hjj]; exact U5.out)
                  have HNL := mkHid hnl
                  clear hjj hnl
                  go_wp2
                  go_roundw
                  case rel => exact ⟨m + 1, ja, jc, by omega, by go_num, by rw [HNL.out], by rw [HNL.out]; exact U7.out, H5.out⟩
                  case measure => simp [intOf]; omega
        · have e : m = k := by omega
          subst e
          have hcv := conv_own U.out (orderT_pos l (by omega))
          have r0 := RN.out _ HC.out
          have HBE := mkHid (BWc.out.trans (HC.out.mono BWc.out.size))
          go_wp2
          go_ret
          exact ⟨rfl, HBE.out⟩
set_option maxRecDepth 100000 in
set_option maxHeartbeats 800000 in
theorem sOrder_no (p : Int) (es : List Ed) (a : Option Addr) (c : Nat) (w : World) (hg : gokB p es = false) (hl : KidsG w 0 a es) :
    Calls Tryd.prog 5 #[.agg #[.int .i64 p, .slice a es.length c]] w fun e w' => e = .returned (.string ⟨#[]⟩) ∧ Below w.heap.size w w' := by
  have HL := mkHid hl
  have HGK := mkHid hg
  have B0 := mkHid ((Below.refl w.heap.size w).alloc (Nat.le_refl _) (.cells #[.int .i64 p, .slice a es.length c] 29))
  clear hl hg
  go_enter Tryd.func5, Tryd.ntmps5
  go_wp2_with fail
  refine (sGraphOk_ok p es a c _ (HL.out.below B0.out)).mono ?_
  rintro e w1 ⟨rfl, hb1⟩
  rw [HGK.out]
  have B1 := mkHid (below_step B0.out hb1)
  clear hb1 B0
  go_wp2
  go_ret
  exact ⟨rfl, B1.out⟩
theorem sOrder_ok (p : Int) (es : List Ed) (a : Option Addr) (c : Nat) (w : World) (hl : KidsG w 0 a es) :
    Calls Tryd.prog 5 #[.agg #[.int .i64 p, .slice a es.length c]] w fun e w' => e = .returned (.string ⟨(orderT (lastsR p es) (lastsR p es).length).toArray⟩) ∧ Below w.heap.size w w' := by
  cases hg : gokB p es
  · have e : lastsR p es = [] := by unfold lastsR; rw [if_neg (by rw [hg]; decide)]
    rw [e]
    exact sOrder_no p es a c w hg hl
  · obtain ⟨hp, _, _⟩ := all_of hg
    obtain ⟨p1, p2⟩ := btw_iff.1 hp
    obtain ⟨n, rfl⟩ : ∃ n : Nat, p = n := ⟨p.toNat, by omega⟩
    have e : lastsR n es = lastsL n es := by unfold lastsR; rw [if_pos hg, Int.toNat_natCast]
    rw [e, lastsL_len]
    exact sOrder_yes n es a c w hg hl
end Go.Proofs.YtpikgigfeifliaaDoor
