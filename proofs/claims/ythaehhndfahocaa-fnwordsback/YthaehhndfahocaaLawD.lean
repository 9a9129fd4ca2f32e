/-
  The law on words that are read back: words that are written into a text are read back from it, one by one, each where it was written; so are the words of a text; for every two lists of bytes to draw from; both read behind the call as they did.
-/
import Derived.Test.YthaehhndfahocaaOwn
namespace Go.Proofs.Ythaehhndfahocaa
open Go.ChangeShapes Go.WideShapes Go.ChangeAt Go.RowKit Go.Joins Go.Deep
open Pl

theorem Lies.set {w : World} {b off : Nat} {ws : List W3} {c : Nat} (h : Lies w b off ws) (hne : b ≠ c) (i : Nat) (v : Value) : Lies (w.setCell ⟨c, i, none⟩ v) b off ws := fun j x hx => by
  obtain ⟨h0, h1, h2⟩ := h j x hx
  have hb : (w.setCell ⟨c, i, none⟩ v).heap[b]? = w.heap[b]? := Below.heap_setCell _ _ _ _ hne
  exact ⟨(World.cell?_of_block (w := w) hb).trans h0, (World.cell?_of_block (w := w) hb).trans h1, (World.cell?_of_block (w := w) hb).trans h2⟩

set_option maxRecDepth 100000 in
set_option maxHeartbeats 8000000 in
theorem lawD_walk (a0 a1 : Option Addr) (n0 cap0 n1 cap1 : Nat) (w : World) (hb0 : Bytes w w.heap.size a0 n0) (hb1 : Bytes w w.heap.size a1 n1) :
    Calls Try.prog 3 #[.slice a0 n0 cap0, .slice a1 n1 cap1] w fun e w' => e = .returned (.bool true) ∧ Below w.heap.size w w' := by
  have Y0 := mkHid hb0
  have Y1 := mkHid hb1
  clear hb0 hb1
  by_cases g0 : 1048576 < (n0 : Int)
  · have e0 : decide (1048576 < (n0 : Int)) = true := by simpa using g0
    go_enter Try.func3, Try.ntmps3
    go_wp2_with (go_at_call 7; refine (big_any _ _ _ _).mono ?_; rintro e w' ⟨rfl, rfl⟩)
    go_ret
    exact ⟨rfl, Below.refl _ _⟩
  have e0 : decide (1048576 < (n0 : Int)) = false := by simpa using g0
  by_cases g1 : 1048576 < (n1 : Int)
  · have e1 : decide (1048576 < (n1 : Int)) = true := by simpa using g1
    go_enter Try.func3, Try.ntmps3
    go_wp2_with (go_at_call 7; refine (big_any _ _ _ _).mono ?_; rintro e w' ⟨rfl, rfl⟩)
    go_ret
    exact ⟨rfl, Below.refl _ _⟩
  have e1 : decide (1048576 < (n1 : Int)) = false := by simpa using g1
  go_enter Try.func3, Try.ntmps3
  go_wp2_with (first | (go_at_call 7; refine (big_any _ _ _ _).mono ?_; rintro e w' ⟨rfl, rfl⟩) | fail)
  refine (drawList_any n0 cap0 a0 _ (by omega) Y0.out).mono ?_
  rintro e w1 ⟨v0, ws, rfl, ho1, htn, hln, hb1⟩
  have O1 := mkHid ho1
  have B1 := mkHid hb1
  have TN := mkHid htn
  have SM : Hid (Small ws) := ⟨by omega, fun x hx => by have := htn x hx; omega⟩
  clear ho1 hb1 htn Y0
  by_cases hbad : textB ws = true ∧ ws ≠ []
  · obtain ⟨htb, hwn⟩ := hbad
    have hl0 : ws.length ≠ 0 := fun e => hwn (List.eq_nil_of_length_eq_zero e)
    obtain ⟨gb, cp, rfl⟩ := O1.out.some hl0
    have hwords := words_back htb hwn
    have hfull := text_full htb hwn
    have HWB := mkHid hwords
    clear hwords htb
    go_wp2_with fail
    refine (iText_own O1.out SM.out).mono ?_
    rintro e w2 ⟨rfl, hb2⟩
    have O2 := mkHid (O1.out.below hb2)
    have B2 := mkHid (below_step B1.out hb2)
    clear hb2 O1 B1
    go_wp2_with fail
    refine (sText_own O2.out SM.out).mono ?_
    rintro e w3 ⟨rfl, hb3⟩
    have O3 := mkHid (O2.out.below hb3)
    have B3 := mkHid (below_step B2.out hb3)
    clear hb3 O2 B2
    have hz := text_size ws
    go_wp2_with fail
    have hcall := iWords_any (textOf ws) w3 (by unfold maxLen; omega)
    rw [HWB.out] at hcall
    refine hcall.mono ?_
    rintro e w4 ⟨v1, rfl, ho4, hb4⟩
    have hpl : (placeL ws 0).length = ws.length := place_len ws 0
    have hpn : (placeL ws 0).length ≠ 0 := by omega
    obtain ⟨gc, cq, rfl⟩ := ho4.some hpn
    have L4 := mkHid (lies_of_row ho4)
    have L0 := mkHid (Lies.below (lies_of_row O3.out) hb4)
    have B4 := mkHid (below_step B3.out hb4)
    clear ho4 hb4 O3 B3 hcall HWB
    rw [hpl]
    go_wp2
    have L4a := mkHid (L4.out)
    go_loopw [9, 10] (fun at_ i w' => ∃ k : Nat, k ≤ ws.length ∧ i = .int .i64 k ∧ at_ = .int .i64 (posL ws k : Nat) ∧ Below w4.heap.size w4 w') (fun _ i _ => ws.length - (intOf i).toNat)
    case atStart => exact ⟨0, Nat.zero_le _, rfl, by cases ws <;> rfl, (Below.refl _ _).alloc (Nat.le_refl _) _⟩
    case round =>
      obtain ⟨k, hk, rfl, rfl, hbl⟩ := hrel
      have HL := mkHid hbl
      clear hbl hfull hz hpl hpn hl0 hwn
      by_cases hlt : k < ws.length
      · obtain ⟨x, hx⟩ : ∃ x, ws[k]? = some x := ⟨_, List.getElem?_eq_getElem hlt⟩
        have HP := mkHid (pos_succ hx)
        have hpos : posL ws k ≤ 5001 * k := pos_le ws k (fun y hy => by have := TN.out y hy; omega)
        have hxs : x.s.size ≤ 20 := TN.out x (List.mem_of_getElem? hx)
        obtain ⟨c0, c1, c2⟩ := L0.out.below HL.out k x hx
        obtain ⟨d0, d1, d2⟩ := L4.out.below HL.out k _ (place_get (p := 0) hx)
        rw [Nat.zero_add] at c0 c1 c2 d0 d1 d2
        simp only [Nat.zero_add] at d2
        clear hx
        have i0 : (0 : Int) ≤ (k : Int) := by omega
        have i1 : (k : Int) < (ws.length : Int) := by omega
        go_wp2
        go_quiet (fail)
        go_wp2
        go_roundw
        case rel => exact ⟨k + 1, by omega, by go_num, by rw [HP.out]; go_num, HL.out.trans ⟨rfl, rfl, rfl, Nat.le_refl _, fun _ _ => rfl⟩⟩
        case measure => simp [intOf]; omega
      · go_wp2_with fail
        have BE := mkHid (below_step B4.out HL.out)
        clear B4 HL L0 L4 L4a TN SM
        refine (drawText_any n1 cap1 a1 _ (by omega) (Y1.out.later BE.out)).mono ?_
        rintro e wa ⟨tx, rfl, htz, hba⟩
        have BA := mkHid (below_step BE.out hba)
        have hn := words_len tx
        have hsm := words_small tx
        have hI := fun w => iWords_any tx w (by unfold maxLen; omega)
        have hS := fun w => sWords_any tx w (by unfold maxLen; omega)
        obtain ⟨⟨us, c, d⟩, hw⟩ : ∃ x, wordsI tx = x := ⟨_, rfl⟩
        rw [hw] at hn hsm
        simp only [hw] at hI hS
        have HI := mkHid hI
        have HS := mkHid hS
        have SU : Hid (Small us) := ⟨Nat.le_trans hn (by decide), fun x hx => Nat.le_trans (hsm x hx) (by decide)⟩
        have hun : us.length ≤ 1500 := hn
        have US : Hid (∀ x ∈ us, x.s.size ≤ 4000) := hsm
        clear hba hw hn hsm hI hS BE Y1
        by_cases hbad : textB us = true ∧ us ≠ []
        · obtain ⟨htb, hwn⟩ := hbad
          have hl0 : us.length ≠ 0 := fun e => hwn (List.eq_nil_of_length_eq_zero e)
          have HWB := mkHid (words_back htb hwn)
          have hfull := text_full htb hwn
          clear htb
          go_wp2_with fail
          refine (HI.out _).mono ?_
          rintro e wb ⟨v1, rfl, ho1, hbb⟩
          obtain ⟨ga, ca, rfl⟩ := Owns.some ho1 hl0
          have OB := mkHid ho1
          have BB := mkHid (below_step BA.out hbb)
          have WB : Hid (w.heap.size ≤ wb.heap.size) := BB.out.size
          clear ho1 hbb BA
          go_wp2_with fail
          refine (HS.out _).mono ?_
          rintro e wc ⟨v2, rfl, ho2, hbc⟩
          obtain ⟨gd, cd, rfl⟩ := Owns.some ho2 hl0
          have hgd : wb.heap.size < gd := by have := (World.ownsRow.lt ho2 gd rfl).1; simp at this; omega
          have HGD := mkHid hgd
          clear hgd
          have A1 : Hid (Below wb.heap.size wb (wb.alloc (.cells #[.int .i64 c, .int .i64 d] 28))) := (Below.refl _ _).alloc (Nat.le_refl _) _
          have OC1 := mkHid ((OB.out.below A1.out).below hbc)
          have OC2 := mkHid ho2
          have FC := mkHid ((hbc.block _ (by simp)).trans (heap_alloc_new wb (.cells #[.int .i64 c, .int .i64 d] 28)))
          have BC := mkHid (below_step (below_step BB.out A1.out) hbc)
          clear ho2 hbc OB BB A1
          have A2 : Hid (Below wc.heap.size wc (wc.alloc (.cells #[.int .i64 c, .int .i64 d] 28))) := (Below.refl _ _).alloc (Nat.le_refl _) _
          have OD1 := mkHid (OC1.out.below A2.out)
          have OD2 := mkHid (OC2.out.below A2.out)
          have FD := mkHid ((A2.out.block _ (block_lt FC.out)).trans FC.out)
          have FE := mkHid (heap_alloc_new wc (.cells #[.int .i64 c, .int .i64 d] 28))
          have BD := mkHid (below_step BC.out A2.out)
          clear OC1 OC2 FC BC A2
          have c0 : (wc.alloc (.cells #[.int .i64 c, .int .i64 d] 28)).cell? ⟨wb.heap.size, 0, none⟩ = some (.int .i64 c) := by rw [Lib.cell_of_heap FD.out]; rfl
          have c1 : (wc.alloc (.cells #[.int .i64 c, .int .i64 d] 28)).cell? ⟨wb.heap.size, 1, none⟩ = some (.int .i64 d) := by rw [Lib.cell_of_heap FD.out]; rfl
          go_wp2_with fail
          refine (iText_own OD1.out SU.out).mono ?_
          rintro e we ⟨rfl, hbe⟩
          have OE2 := mkHid (OD2.out.below hbe)
          have FE1 := mkHid ((hbe.block _ (block_lt FD.out)).trans FD.out)
          have BE1 := mkHid (below_step BD.out hbe)
          clear hbe OD1 OD2 FD FE BD c0 c1
          go_wp2_with fail
          refine (sText_own OE2.out SU.out).mono ?_
          rintro e wf ⟨rfl, hbf⟩
          have OF2 := mkHid (OE2.out.below hbf)
          have FF := mkHid ((hbf.block _ (block_lt FE1.out)).trans FE1.out)
          have BF := mkHid (below_step BE1.out hbf)
          clear hbf OE2 FE1 BE1
          have hz := text_size us
          go_wp2_with fail
          have hcall := iWords_any (textOf us) wf (by unfold maxLen; omega)
          rw [HWB.out] at hcall
          refine hcall.mono ?_
          rintro e wg ⟨v3, rfl, ho3, hbg⟩
          have hpl : (placeL us 0).length = us.length := place_len us 0
          have hpn : (placeL us 0).length ≠ 0 := by omega
          obtain ⟨gh, ch, rfl⟩ := Owns.some ho3 hpn
          have hgh : wb.heap.size < gh := by have h1 := (World.ownsRow.lt ho3 gh rfl).1; have h2 := block_lt FF.out; omega
          have HGH := mkHid hgh
          clear hgh
          have LG3 := mkHid (lies_of_row ho3)
          have LG2 := mkHid (Lies.below (lies_of_row OF2.out) hbg)
          have FG := mkHid ((hbg.block _ (block_lt FF.out)).trans FF.out)
          have BG := mkHid (below_step BF.out hbg)
          clear ho3 hbg OF2 FF BF hcall HWB
          rw [hpl]
          have k0 : wg.cell? ⟨wb.heap.size, 0, none⟩ = some (.int .i64 c) := by rw [Lib.cell_of_heap FG.out]; rfl
          have k1 : wg.cell? ⟨wb.heap.size, 1, none⟩ = some (.int .i64 d) := by rw [Lib.cell_of_heap FG.out]; rfl
          have m0 := Lib.frozen_of_heap FG.out 0
          have m1 := Lib.frozen_of_heap FG.out 1
          have hNb : w.heap.size ≤ wb.heap.size := WB.out
          have BW : Hid (Below w.heap.size w ((wg.setCell ⟨wb.heap.size, 0, none⟩ (.int .i64 0)).setCell ⟨wb.heap.size, 1, none⟩ (.int .i64 0))) := (BG.out.setCell (p := ⟨wb.heap.size, 0, none⟩) hNb _).setCell (p := ⟨wb.heap.size, 1, none⟩) hNb _
          have LW3 : Hid (Lies ((wg.setCell ⟨wb.heap.size, 0, none⟩ (.int .i64 0)).setCell ⟨wb.heap.size, 1, none⟩ (.int .i64 0)) gh 0 (placeL us 0)) := (LG3.out.set (by have := HGH.out; omega) _ _).set (by have := HGH.out; omega) _ _
          have LW2 : Hid (Lies ((wg.setCell ⟨wb.heap.size, 0, none⟩ (.int .i64 0)).setCell ⟨wb.heap.size, 1, none⟩ (.int .i64 0)) gd 0 us) := (LG2.out.set (by have := HGD.out; omega) _ _).set (by have := HGD.out; omega) _ _
          clear LG2 LG3 BG FG
          go_wp2
          go_loopw [17] (fun i w' => ∃ k : Nat, k ≤ us.length ∧ i = .int .i64 k ∧ Below ((wg.setCell ⟨wb.heap.size, 0, none⟩ (.int .i64 0)).setCell ⟨wb.heap.size, 1, none⟩ (.int .i64 0)).heap.size ((wg.setCell ⟨wb.heap.size, 0, none⟩ (.int .i64 0)).setCell ⟨wb.heap.size, 1, none⟩ (.int .i64 0)) w') (fun i _ => us.length - (intOf i).toNat)
          case atStart => exact ⟨0, Nat.zero_le _, rfl, Below.refl _ _⟩
          case round =>
            obtain ⟨k, hk, rfl, hbl⟩ := hrel
            have HL2 := mkHid hbl
            clear hbl hfull hz hpl hpn hl0 hwn k0 k1 m0 m1
            by_cases hlt : k < us.length
            · obtain ⟨x, hx⟩ : ∃ x, us[k]? = some x := ⟨_, List.getElem?_eq_getElem hlt⟩
              obtain ⟨c0, c1, c2⟩ := LW2.out.below HL2.out k x hx
              obtain ⟨d0, d1, d2⟩ := LW3.out.below HL2.out k _ (place_get (p := 0) hx)
              rw [Nat.zero_add] at c0 c1 c2 d0 d1 d2
              clear hx
              have i0 : (0 : Int) ≤ (k : Int) := by omega
              have i1 : (k : Int) < (us.length : Int) := by omega
              go_wp2
              go_quiet (fail)
              go_wp2
              go_roundw
              case rel => exact ⟨k + 1, by omega, by go_num, HL2.out.trans ⟨rfl, rfl, rfl, Nat.le_refl _, fun _ _ => rfl⟩⟩
              case measure => simp [intOf]; omega
            · go_wp2
              go_ret
              exact ⟨rfl, below_step BW.out HL2.out⟩
        · have hemp : textOf us = ⟨#[]⟩ := by
            by_cases q : us = []
            · rw [q]; exact text_nil
            · exact text_none (by cases h : textB us with
                | false => rfl
                | true => exact absurd ⟨h, q⟩ hbad)
          have HE2 := mkHid hemp
          clear hbad hemp
          go_wp2_with fail
          refine (HI.out _).mono ?_
          rintro e wb ⟨v1, rfl, ho1, hbb⟩
          obtain ⟨ga, ca, rfl⟩ := Owns.form ho1
          have OB := mkHid ho1
          have BB := mkHid (below_step BA.out hbb)
          clear ho1 hbb BA
          go_wp2_with fail
          refine (HS.out _).mono ?_
          rintro e wc ⟨v2, rfl, ho2, hbc⟩
          obtain ⟨gd, cd, rfl⟩ := Owns.form ho2
          have A1 : Hid (Below wb.heap.size wb (wb.alloc (.cells #[.int .i64 c, .int .i64 d] 28))) := (Below.refl _ _).alloc (Nat.le_refl _) _
          have OC1 := mkHid ((OB.out.below A1.out).below hbc)
          have OC2 := mkHid ho2
          have FC := mkHid ((hbc.block _ (by simp)).trans (heap_alloc_new wb (.cells #[.int .i64 c, .int .i64 d] 28)))
          have BC := mkHid (below_step (below_step BB.out A1.out) hbc)
          clear ho2 hbc OB BB A1
          have A2 : Hid (Below wc.heap.size wc (wc.alloc (.cells #[.int .i64 c, .int .i64 d] 28))) := (Below.refl _ _).alloc (Nat.le_refl _) _
          have OD1 := mkHid (OC1.out.below A2.out)
          have OD2 := mkHid (OC2.out.below A2.out)
          have FD := mkHid ((A2.out.block _ (block_lt FC.out)).trans FC.out)
          have BD := mkHid (below_step BC.out A2.out)
          clear OC1 OC2 FC BC A2
          have c0 : (wc.alloc (.cells #[.int .i64 c, .int .i64 d] 28)).cell? ⟨wb.heap.size, 0, none⟩ = some (.int .i64 c) := by rw [Lib.cell_of_heap FD.out]; rfl
          have c1 : (wc.alloc (.cells #[.int .i64 c, .int .i64 d] 28)).cell? ⟨wb.heap.size, 1, none⟩ = some (.int .i64 d) := by rw [Lib.cell_of_heap FD.out]; rfl
          go_wp2_with fail
          have hcall := iText_own OD1.out SU.out
          rw [HE2.out] at hcall
          refine hcall.mono ?_
          rintro e we ⟨rfl, hbe⟩
          have OE2 := mkHid (OD2.out.below hbe)
          have BE1 := mkHid (below_step BD.out hbe)
          clear hbe OD1 OD2 FD BD c0 c1 hcall
          go_wp2_with fail
          have hcall := sText_own OE2.out SU.out
          rw [HE2.out] at hcall
          refine hcall.mono ?_
          rintro e wf ⟨rfl, hbf⟩
          have BF := mkHid (below_step BE1.out hbf)
          clear hbf OE2 BE1 hcall
          go_wp2
          go_ret
          exact ⟨rfl, BF.out⟩
  · have hemp : textOf ws = ⟨#[]⟩ := by
      by_cases q : ws = []
      · rw [q]; exact text_nil
      · exact text_none (by cases h : textB ws with
          | false => rfl
          | true => exact absurd ⟨h, q⟩ hbad)
    have HE := mkHid hemp
    clear hbad hemp
    go_wp2_with fail
    refine (iText_own O1.out SM.out).mono ?_
    rintro e w2 ⟨rfl, hb2⟩
    have O2 := mkHid (O1.out.below hb2)
    have B2 := mkHid (below_step B1.out hb2)
    clear hb2 O1 B1
    rw [HE.out]
    go_wp2_with fail
    have hcall := sText_own O2.out SM.out
    rw [HE.out] at hcall
    refine hcall.mono ?_
    rintro e w3 ⟨rfl, hb3⟩
    have B3 := mkHid (below_step B2.out hb3)
    clear hb3 O2 B2 hcall
    go_wp2_with fail
    have BE := B3
    clear B3 HE TN SM
    refine (drawText_any n1 cap1 a1 _ (by omega) (Y1.out.later BE.out)).mono ?_
    rintro e wa ⟨tx, rfl, htz, hba⟩
    have BA := mkHid (below_step BE.out hba)
    have hn := words_len tx
    have hsm := words_small tx
    have hI := fun w => iWords_any tx w (by unfold maxLen; omega)
    have hS := fun w => sWords_any tx w (by unfold maxLen; omega)
    obtain ⟨⟨us, c, d⟩, hw⟩ : ∃ x, wordsI tx = x := ⟨_, rfl⟩
    rw [hw] at hn hsm
    simp only [hw] at hI hS
    have HI := mkHid hI
    have HS := mkHid hS
    have SU : Hid (Small us) := ⟨Nat.le_trans hn (by decide), fun x hx => Nat.le_trans (hsm x hx) (by decide)⟩
    have hun : us.length ≤ 1500 := hn
    have US : Hid (∀ x ∈ us, x.s.size ≤ 4000) := hsm
    clear hba hw hn hsm hI hS BE Y1
    by_cases hbad : textB us = true ∧ us ≠ []
    · obtain ⟨htb, hwn⟩ := hbad
      have hl0 : us.length ≠ 0 := fun e => hwn (List.eq_nil_of_length_eq_zero e)
      have HWB := mkHid (words_back htb hwn)
      have hfull := text_full htb hwn
      clear htb
      go_wp2_with fail
      refine (HI.out _).mono ?_
      rintro e wb ⟨v1, rfl, ho1, hbb⟩
      obtain ⟨ga, ca, rfl⟩ := Owns.some ho1 hl0
      have OB := mkHid ho1
      have BB := mkHid (below_step BA.out hbb)
      have WB : Hid (w.heap.size ≤ wb.heap.size) := BB.out.size
      clear ho1 hbb BA
      go_wp2_with fail
      refine (HS.out _).mono ?_
      rintro e wc ⟨v2, rfl, ho2, hbc⟩
      obtain ⟨gd, cd, rfl⟩ := Owns.some ho2 hl0
      have hgd : wb.heap.size < gd := by have := (World.ownsRow.lt ho2 gd rfl).1; simp at this; omega
      have HGD := mkHid hgd
      clear hgd
      have A1 : Hid (Below wb.heap.size wb (wb.alloc (.cells #[.int .i64 c, .int .i64 d] 28))) := (Below.refl _ _).alloc (Nat.le_refl _) _
      have OC1 := mkHid ((OB.out.below A1.out).below hbc)
      have OC2 := mkHid ho2
      have FC := mkHid ((hbc.block _ (by simp)).trans (heap_alloc_new wb (.cells #[.int .i64 c, .int .i64 d] 28)))
      have BC := mkHid (below_step (below_step BB.out A1.out) hbc)
      clear ho2 hbc OB BB A1
      have A2 : Hid (Below wc.heap.size wc (wc.alloc (.cells #[.int .i64 c, .int .i64 d] 28))) := (Below.refl _ _).alloc (Nat.le_refl _) _
      have OD1 := mkHid (OC1.out.below A2.out)
      have OD2 := mkHid (OC2.out.below A2.out)
      have FD := mkHid ((A2.out.block _ (block_lt FC.out)).trans FC.out)
      have FE := mkHid (heap_alloc_new wc (.cells #[.int .i64 c, .int .i64 d] 28))
      have BD := mkHid (below_step BC.out A2.out)
      clear OC1 OC2 FC BC A2
      have c0 : (wc.alloc (.cells #[.int .i64 c, .int .i64 d] 28)).cell? ⟨wb.heap.size, 0, none⟩ = some (.int .i64 c) := by rw [Lib.cell_of_heap FD.out]; rfl
      have c1 : (wc.alloc (.cells #[.int .i64 c, .int .i64 d] 28)).cell? ⟨wb.heap.size, 1, none⟩ = some (.int .i64 d) := by rw [Lib.cell_of_heap FD.out]; rfl
      go_wp2_with fail
      refine (iText_own OD1.out SU.out).mono ?_
      rintro e we ⟨rfl, hbe⟩
      have OE2 := mkHid (OD2.out.below hbe)
      have FE1 := mkHid ((hbe.block _ (block_lt FD.out)).trans FD.out)
      have BE1 := mkHid (below_step BD.out hbe)
      clear hbe OD1 OD2 FD FE BD c0 c1
      go_wp2_with fail
      refine (sText_own OE2.out SU.out).mono ?_
      rintro e wf ⟨rfl, hbf⟩
      have OF2 := mkHid (OE2.out.below hbf)
      have FF := mkHid ((hbf.block _ (block_lt FE1.out)).trans FE1.out)
      have BF := mkHid (below_step BE1.out hbf)
      clear hbf OE2 FE1 BE1
      have hz := text_size us
      go_wp2_with fail
      have hcall := iWords_any (textOf us) wf (by unfold maxLen; omega)
      rw [HWB.out] at hcall
      refine hcall.mono ?_
      rintro e wg ⟨v3, rfl, ho3, hbg⟩
      have hpl : (placeL us 0).length = us.length := place_len us 0
      have hpn : (placeL us 0).length ≠ 0 := by omega
      obtain ⟨gh, ch, rfl⟩ := Owns.some ho3 hpn
      have hgh : wb.heap.size < gh := by have h1 := (World.ownsRow.lt ho3 gh rfl).1; have h2 := block_lt FF.out; omega
      have HGH := mkHid hgh
      clear hgh
      have LG3 := mkHid (lies_of_row ho3)
      have LG2 := mkHid (Lies.below (lies_of_row OF2.out) hbg)
      have FG := mkHid ((hbg.block _ (block_lt FF.out)).trans FF.out)
      have BG := mkHid (below_step BF.out hbg)
      clear ho3 hbg OF2 FF BF hcall HWB
      rw [hpl]
      have k0 : wg.cell? ⟨wb.heap.size, 0, none⟩ = some (.int .i64 c) := by rw [Lib.cell_of_heap FG.out]; rfl
      have k1 : wg.cell? ⟨wb.heap.size, 1, none⟩ = some (.int .i64 d) := by rw [Lib.cell_of_heap FG.out]; rfl
      have m0 := Lib.frozen_of_heap FG.out 0
      have m1 := Lib.frozen_of_heap FG.out 1
      have hNb : w.heap.size ≤ wb.heap.size := WB.out
      have BW : Hid (Below w.heap.size w ((wg.setCell ⟨wb.heap.size, 0, none⟩ (.int .i64 0)).setCell ⟨wb.heap.size, 1, none⟩ (.int .i64 0))) := (BG.out.setCell (p := ⟨wb.heap.size, 0, none⟩) hNb _).setCell (p := ⟨wb.heap.size, 1, none⟩) hNb _
      have LW3 : Hid (Lies ((wg.setCell ⟨wb.heap.size, 0, none⟩ (.int .i64 0)).setCell ⟨wb.heap.size, 1, none⟩ (.int .i64 0)) gh 0 (placeL us 0)) := (LG3.out.set (by have := HGH.out; omega) _ _).set (by have := HGH.out; omega) _ _
      have LW2 : Hid (Lies ((wg.setCell ⟨wb.heap.size, 0, none⟩ (.int .i64 0)).setCell ⟨wb.heap.size, 1, none⟩ (.int .i64 0)) gd 0 us) := (LG2.out.set (by have := HGD.out; omega) _ _).set (by have := HGD.out; omega) _ _
      clear LG2 LG3 BG FG
      go_wp2
      go_loopw [17] (fun i w' => ∃ k : Nat, k ≤ us.length ∧ i = .int .i64 k ∧ Below ((wg.setCell ⟨wb.heap.size, 0, none⟩ (.int .i64 0)).setCell ⟨wb.heap.size, 1, none⟩ (.int .i64 0)).heap.size ((wg.setCell ⟨wb.heap.size, 0, none⟩ (.int .i64 0)).setCell ⟨wb.heap.size, 1, none⟩ (.int .i64 0)) w') (fun i _ => us.length - (intOf i).toNat)
      case atStart => exact ⟨0, Nat.zero_le _, rfl, Below.refl _ _⟩
      case round =>
        obtain ⟨k, hk, rfl, hbl⟩ := hrel
        have HL2 := mkHid hbl
        clear hbl hfull hz hpl hpn hl0 hwn k0 k1 m0 m1
        by_cases hlt : k < us.length
        · obtain ⟨x, hx⟩ : ∃ x, us[k]? = some x := ⟨_, List.getElem?_eq_getElem hlt⟩
          obtain ⟨c0, c1, c2⟩ := LW2.out.below HL2.out k x hx
          obtain ⟨d0, d1, d2⟩ := LW3.out.below HL2.out k _ (place_get (p := 0) hx)
          rw [Nat.zero_add] at c0 c1 c2 d0 d1 d2
          clear hx
          have i0 : (0 : Int) ≤ (k : Int) := by omega
          have i1 : (k : Int) < (us.length : Int) := by omega
          go_wp2
          go_quiet (fail)
          go_wp2
          go_roundw
          case rel => exact ⟨k + 1, by omega, by go_num, HL2.out.trans ⟨rfl, rfl, rfl, Nat.le_refl _, fun _ _ => rfl⟩⟩
          case measure => simp [intOf]; omega
        · go_wp2
          go_ret
          exact ⟨rfl, below_step BW.out HL2.out⟩
    · have hemp : textOf us = ⟨#[]⟩ := by
        by_cases q : us = []
        · rw [q]; exact text_nil
        · exact text_none (by cases h : textB us with
            | false => rfl
            | true => exact absurd ⟨h, q⟩ hbad)
      have HE2 := mkHid hemp
      clear hbad hemp
      go_wp2_with fail
      refine (HI.out _).mono ?_
      rintro e wb ⟨v1, rfl, ho1, hbb⟩
      obtain ⟨ga, ca, rfl⟩ := Owns.form ho1
      have OB := mkHid ho1
      have BB := mkHid (below_step BA.out hbb)
      clear ho1 hbb BA
      go_wp2_with fail
      refine (HS.out _).mono ?_
      rintro e wc ⟨v2, rfl, ho2, hbc⟩
      obtain ⟨gd, cd, rfl⟩ := Owns.form ho2
      have A1 : Hid (Below wb.heap.size wb (wb.alloc (.cells #[.int .i64 c, .int .i64 d] 28))) := (Below.refl _ _).alloc (Nat.le_refl _) _
      have OC1 := mkHid ((OB.out.below A1.out).below hbc)
      have OC2 := mkHid ho2
      have FC := mkHid ((hbc.block _ (by simp)).trans (heap_alloc_new wb (.cells #[.int .i64 c, .int .i64 d] 28)))
      have BC := mkHid (below_step (below_step BB.out A1.out) hbc)
      clear ho2 hbc OB BB A1
      have A2 : Hid (Below wc.heap.size wc (wc.alloc (.cells #[.int .i64 c, .int .i64 d] 28))) := (Below.refl _ _).alloc (Nat.le_refl _) _
      have OD1 := mkHid (OC1.out.below A2.out)
      have OD2 := mkHid (OC2.out.below A2.out)
      have FD := mkHid ((A2.out.block _ (block_lt FC.out)).trans FC.out)
      have BD := mkHid (below_step BC.out A2.out)
      clear OC1 OC2 FC BC A2
      have c0 : (wc.alloc (.cells #[.int .i64 c, .int .i64 d] 28)).cell? ⟨wb.heap.size, 0, none⟩ = some (.int .i64 c) := by rw [Lib.cell_of_heap FD.out]; rfl
      have c1 : (wc.alloc (.cells #[.int .i64 c, .int .i64 d] 28)).cell? ⟨wb.heap.size, 1, none⟩ = some (.int .i64 d) := by rw [Lib.cell_of_heap FD.out]; rfl
      go_wp2_with fail
      have hcall := iText_own OD1.out SU.out
      rw [HE2.out] at hcall
      refine hcall.mono ?_
      rintro e we ⟨rfl, hbe⟩
      have OE2 := mkHid (OD2.out.below hbe)
      have BE1 := mkHid (below_step BD.out hbe)
      clear hbe OD1 OD2 FD BD c0 c1 hcall
      go_wp2_with fail
      have hcall := sText_own OE2.out SU.out
      rw [HE2.out] at hcall
      refine hcall.mono ?_
      rintro e wf ⟨rfl, hbf⟩
      have BF := mkHid (below_step BE1.out hbf)
      clear hbf OE2 BE1 hcall
      go_wp2
      go_ret
      exact ⟨rfl, BF.out⟩
end Go.Proofs.Ythaehhndfahocaa
