/-
  CONTRACT of the specification's GraphText.
-/
import Derived.Test.YtedfnadgmhjojaaGreatDoorMGf
import Derived.Test.YtedfnadgmhjojaaGreatDoorMBuild
import Derived.Deep.CutRange
namespace Go.Proofs.YtedfnadgmhjojaaGreatDoor
open Go.RowKit
open Pl
set_option maxRecDepth 100000 in
set_option maxHeartbeats 16000000 in
theorem sGraph_yes (p : Int) (es : List Ed) (a : Option Addr) (c : Nat) (w : World) (hg : gokB p es = true) (hcn : ∀ e ∈ es, cnt e.n ≤ 1048576) (hl : KidsG w 0 a es) :
    Calls Tryz.prog 5 #[.agg #[.int .i64 p, .slice a es.length c]] w fun e w' => e = .returned (.string ⟨(graphL es).toArray⟩) ∧ Below w.heap.size w w' := by
 obtain ⟨i5, hi5, hz⟩ := Option.map_eq_some_iff.1 Tryz.info35b
 simp only [Prod.mk.injEq] at hz
 obtain ⟨hy0, hy1, hy2⟩ := hz
 have HJ := mkHid (show Tryz.prog.info? 5 = some i5 ∧ i5.zero = some (.int .u8 0) ∧ i5.size = 1 ∧ i5.bytes = 1 from ⟨hi5, hy0, hy1, hy2⟩)
 obtain ⟨hp3, hn6, hall⟩ := gok_parts hg
 have HGK := mkHid hg
 have HAL := mkHid hall
 have HCN := mkHid hcn
 have HL := mkHid hl
 have HLEN := mkHid (graphL_len (es := es) fun e he => ⟨(hall e he).1.2, (hall e he).2.1.2⟩)
 have hb0 := below_one w (.cells #[.int .i64 p, .slice a es.length c] 29)
 have h0 := heap_alloc_new w (.cells #[.int .i64 p, .slice a es.length c] 29)
 obtain ⟨w0, hw0⟩ : ∃ q, w.alloc (.cells #[.int .i64 p, .slice a es.length c] 29) = q := ⟨_, rfl⟩
 rw [hw0] at hb0 h0
 have HB0 := mkHid hb0
 have HX := mkHid h0
 have q0 : w0.cell? ⟨w.heap.size, 0, none⟩ = some (.int .i64 p) := by rw [Lib.cell_of_heap h0]; rfl
 have q1 : w0.cell? ⟨w.heap.size, 1, none⟩ = some (.slice a es.length c) := by rw [Lib.cell_of_heap h0]; rfl
 clear hl hi5 hy0 hy1 hy2 hg hb0 h0 hall hcn
 go_enter Tryz.func5, Tryz.ntmps5
 go_wp2_with fail
 first | rw [hw0] | skip
 refine (sGraphOk_ok p es a c _ (HL.out.below HB0.out)).mono ?_
 rintro e w1 ⟨rfl, hb1⟩
 rw [HGK.out]
 have HB1 := mkHid (below_step HB0.out hb1)
 have HX1 := mkHid ((hb1.block w.heap.size (Array.getElem?_eq_some_iff.1 HX.out).1).trans HX.out)
 have hX : w.heap.size < w1.heap.size := (Array.getElem?_eq_some_iff.1 HX1.out).1
 clear hb1 q0 q1 HX hw0
 have hbW := below_one w1 (.cells #[] 5)
 have hO0 := heap_alloc_new w1 (.cells #[] 5)
 obtain ⟨W1, hW1⟩ : ∃ q, w1 = q := ⟨_, rfl⟩
 rw [hW1] at hbW hO0 HB1 HX1 hX ⊢
 clear hW1
 have HO0 : Hid (OwnB (W1.alloc (.cells #[] 5)) W1.heap.size (.slice (some ⟨W1.heap.size, 0, none⟩) 0 0) []) := mkHid (OwnB.fresh (Nat.le_refl _) hO0)
 have HBW := mkHid hbW
 clear hbW hO0
 go_wp2
 go_loopw [3, 4] (fun s3 s4 wr => ∃ (i : Nat), i ≤ es.length ∧ s4 = .int .i64 i ∧ OwnB wr W1.heap.size s3 (graphL (es.take i)) ∧ Below W1.heap.size W1 wr) (fun _ s4 _ => es.length - (intOf s4).toNat)
 case atStart => exact ⟨0, Nat.zero_le _, rfl, HO0.out, HBW.out⟩
 case round =>
  obtain ⟨i, hi, rfl, hown, hbel⟩ := hrel
  have HOW := mkHid hown
  have HBL := mkHid hbel
  obtain ⟨oa, oc, rfl⟩ := hown.form
  have hz := hbel.size
  have hx := (hbel.block w.heap.size hX).trans HX1.out
  have q1 : wr.cell? ⟨w.heap.size, 1, none⟩ = some (.slice a es.length c) := by rw [Lib.cell_of_heap hx]; rfl
  have hlen2 : (graphL (es.take i)).length ≤ 100000000 := by
   have := graphL_len (es := es.take i) fun e he => ⟨(HAL.out e (List.mem_of_mem_take he)).1.2, (HAL.out e (List.mem_of_mem_take he)).2.1.2⟩
   rw [List.length_take] at this
   omega
  clear hown HO0 HBW
  by_cases hil : i < es.length
  ·obtain ⟨e0, he0⟩ : ∃ x, es[i]? = some x := ⟨_, List.getElem?_eq_getElem hil⟩
   have hmem := List.mem_of_getElem? he0
   obtain ⟨hf, ht, hk⟩ := HAL.out _ hmem
   have hcx := HCN.out _ hmem
   have HGT := mkHid (graphL_take he0)
   obtain ⟨f, t, k, y, en⟩ := e0
   obtain ⟨nk, ns, nm, kk⟩ := en
   simp only at hf ht hk hcx
   obtain ⟨b, o, rfl, hll⟩ : ∃ b o, a = some ⟨b, o, none⟩ ∧ LiesG W1 0 es b o := by
    rcases (HL.out.below HB1.out) with h | ⟨b, o, e, _, h⟩
    ·rw [h] at hil; simp at hil
    ·exact ⟨b, o, e, h⟩
   obtain ⟨xa, xc, g0, g1, g2, g3, g4, g5, g6, g7, hns, hkn, hkids⟩ := hll.at he0
   have hbl : b < W1.heap.size := World.block_lt_of_cell? W1 _ g0
   have gc : ∀ j, wr.cell? ⟨b, j, none⟩ = W1.cell? ⟨b, j, none⟩ := fun j => hbel.cell (p := ⟨b, j, none⟩) hbl
   rw [← gc] at g0 g1 g2 g3 g4 g5 g6 g7
   obtain ⟨hk1, hk7⟩ := hk
   obtain ⟨fN, rfl⟩ : ∃ n : Nat, f = n := ⟨f.toNat, by omega⟩
   obtain ⟨tN, rfl⟩ : ∃ n : Nat, t = n := ⟨t.toNat, by omega⟩
   have HKI := mkHid hkids
   have HNS := mkHid (And.intro hns hkn)
   have i0 : (0 : Int) ≤ (i : Int) := by omega
   have i1 : (i : Int) < (es.length : Int) := by omega
   have w3 : IntKind.i64.wrap ((i : Int) + 1) = (i : Int) + 1 := IntWalk.i64_in _ (by omega)
   have hfN : fN ≤ 3000 := by omega
   have htN : tN ≤ 3000 := by omega
   have z1 := dec_size fN
   have z2 := dec_size tN
   have z3 := wordT_size k y
   have s1 : ¬ 9223372036854775807 < (dec fN).size + 1 := by omega
   have s2 : ¬ 9223372036854775807 < (dec fN).size + 1 + (wordT k y).size := by omega
   have s3 : ¬ 9223372036854775807 < (dec fN).size + 1 + (wordT k y).size + 1 := by omega
   have s4 : ¬ 9223372036854775807 < (dec fN).size + 1 + (wordT k y).size + 1 + (dec tN).size := by omega
   have hls : (dec fN ++ ⟨#[32]⟩ ++ wordT k y ++ ⟨#[32]⟩ ++ dec tN).size ≤ 6010 := by
    rw [ByteArray.size_append, ByteArray.size_append, ByteArray.size_append, ByteArray.size_append]
    show (dec fN).size + 1 + (wordT k y).size + 1 + (dec tN).size ≤ 6010
    omega
   have HLS := mkHid hls
   clear hll hkids he0 hmem gc hls z1 z2 z3 hns hkn
   have hbx := below_one wr (.cells #[.int .i64 fN, .int .i64 tN, .int .i64 k, .bool y, .int .i64 nk, .string ns, .int .i64 nm, .slice xa kk.length xc] 40)
   have h8 := heap_alloc_new wr (.cells #[.int .i64 fN, .int .i64 tN, .int .i64 k, .bool y, .int .i64 nk, .string ns, .int .i64 nm, .slice xa kk.length xc] 40)
   go_wp2
   obtain ⟨wx, hwx⟩ : ∃ q, wr.alloc (.cells #[.int .i64 fN, .int .i64 tN, .int .i64 k, .bool y, .int .i64 nk, .string ns, .int .i64 nm, .slice xa kk.length xc] 40) = q := ⟨_, rfl⟩
   rw [hwx] at hbx h8 ⊢
   have HBX := mkHid h8
   have HBx := mkHid hbx
   have HOX := mkHid (HOW.out.below hbx)
   have HBa := mkHid (Below.refl wx.heap.size wx).drew
   obtain ⟨c0, c1, c2, c3, c4, c5, c6, c7⟩ := eight_of (w := wx.drew) h8
   have UO := mkHid (HOX.out.below HBa.out)
   have hzx := hbx.size
   clear hwx hbx h8
   go_cut [3] from 11 to 47 (fun s3 wc => OwnB wc W1.heap.size s3 (graphL (es.take i) ++ (dec fN ++ ⟨#[32]⟩ ++ wordT k y ++ ⟨#[32]⟩ ++ dec tN).data.toList) ∧ Below W1.heap.size W1 wc ∧ wc.heap[wr.heap.size]? = some (.cells #[.int .i64 fN, .int .i64 tN, .int .i64 k, .bool y, .int .i64 nk, .string ns, .int .i64 nm, .slice xa kk.length xc] 40 (0, 0)))
   case first =>
    go_region_law (first | (go_simp; go_at_call 11; refine (digits_any _ _ (by omega)).mono ?_; rintro e u1 ⟨rfl, hb1⟩; have HBa := mkHid (below_step HBa.out hb1); clear hb1; obtain ⟨c0, c1, c2, c3, c4, c5, c6, c7⟩ := eight_of (eightF HBX.out HBa.out); have UO := mkHid (HOX.out.below HBa.out)) | (go_simp; go_at_call 12; refine (sWord_any fN tN k y nk nm ns xa kk.length xc _ hk1 hk7).mono ?_; rintro e u1 ⟨rfl, hb1⟩; have HBa := mkHid (below_step HBa.out hb1); clear hb1; obtain ⟨c0, c1, c2, c3, c4, c5, c6, c7⟩ := eight_of (eightF HBX.out HBa.out); have UO := mkHid (HOX.out.below HBa.out)) | (refine step_append_text (by rfl) _ _ _ _ (by rfl) W1.heap.size 5 i5 Tryz.underlying35 Tryz.underlying9 HJ.out.1 HJ.out.2.1 HJ.out.2.2.1 HJ.out.2.2.2 _ _ _ (by rfl) UO.out _ (by rfl) (by have := HLS.out; unfold maxLen; omega) (by have := HLS.out; omega) (by have := HBa.out.size; omega) ?_; intro v' u5 hown' hgrow))
    all_goals
     go_wp2
     go_meet
     case rel => exact ⟨OwnB.str (bs := graphL (es.take i)) (by first | with_reducible rfl | (simp only [ByteArray.size_append]; try rfl)) hown', (((HBL.out.trans (HBx.out.mono HBL.out.size)).trans (HBa.out.mono (Nat.le_trans HBL.out.size HBx.out.size))).grown hgrow (by have := HBa.out.size; omega) (fun q hq => (UO.out.lt hq).1)), (hgrow.block wr.heap.size (by have := HBa.out.size; have h1 := (Array.getElem?_eq_some_iff.1 HBX.out).1; omega) (fun e => by have := (HOW.out.lt e.symm).2; omega)).trans (eightF HBX.out HBa.out)⟩
   case rest =>
    obtain ⟨hc1, hc2, hc3⟩ := hcut
    obtain ⟨tl, htl⟩ : ∃ t, t = graphL (es.take i) ++ (dec fN ++ ⟨#[32]⟩ ++ wordT k y ++ ⟨#[32]⟩ ++ dec tN).data.toList := ⟨_, rfl⟩
    rw [← htl] at hc1
    have htn : tl.length ≤ 100010000 := by rw [htl, List.length_append, ← Lib.size_eq]; have := HLS.out; omega
    have HTL := mkHid htl
    obtain ⟨oa2, oc2, rfl⟩ := hc1.form
    have HO2 := mkHid hc1
    have HB2 := mkHid hc2
    have HX2 := mkHid hc3
    obtain ⟨c0, c1, c2, c3, c4, c5, c6, c7⟩ := eight_of hc3
    have HDS := mkHid (sDoes_any fN tN k y nk nm ns kk xa xc wc HNS.out.1 HNS.out.2 (HKI.out.below hc2) hcx)
    have hD4 := doesT_size k (.node nk ns nm kk)
    have HTA := mkHid (show tailS ⟨fN, tN, k, y, .node nk ns nm kk⟩ = if doesT k (.node nk ns nm kk) = ⟨#[]⟩ then ⟨#[]⟩ else ⟨#[32]⟩ ++ doesT k (.node nk ns nm kk) from rfl)
    obtain ⟨D, hD⟩ : ∃ D, doesT k (.node nk ns nm kk) = D := ⟨_, rfl⟩
    rw [hD] at HDS hD4 HTA
    clear hc1 hc2 hc3 htl hD HKI HLS HBX HBx HOX HBa UO HOW HBL s1 s2 s3 s4
    go_wp2_with fail
    refine HDS.out.mono ?_
    rintro e w9 ⟨rfl, hb9⟩
    have HO3 := mkHid (HO2.out.below hb9)
    have HB3 := mkHid (HB2.out.trans (hb9.mono HB2.out.size))
    have hz9 := HB3.out.size
    clear hb9 HO2 HB2 HX2 HDS c0 c1 c2 c3 c4 c5 c6 c7
    cases hem : D.toList.isEmpty with
    | true =>
      have hD0 : D = ⟨#[]⟩ := by
       have h2 : D.data.toList = [] := by rw [← Lib.toList_data]; simpa using hem
       exact ByteArray.ext (Array.toList_inj.1 (by simpa using h2))
      have HT0 : Hid (tailS ⟨fN, tN, k, y, .node nk ns nm kk⟩ = ⟨#[]⟩) := mkHid (by rw [HTA.out, if_pos hD0])
      clear HTA
      go_wp2_with (at_builtin; refine wpList_append_ownF _ rfl _ _ 35 rfl W1.heap.size 5 i5 (.int .u8 0) 1 1 Tryz.underlying35 HJ.out.1 HJ.out.2.1 HJ.out.2.2.1 HJ.out.2.2.2 rfl (by decide) _ _ _ rfl (World.ownsRowF.alloc HO3.out _) ⟨w9.heap.size, 0, none⟩ 1 1 [.int .u8 10] rfl rfl (oneB_new _ _ _) (by simp [Value.oneCell']) (by unfold maxLen; omega) (by omega) (by simp; omega) ?_)
      intro v9 V9 hown9 hgrow9 _
      have h9 := OwnB.one (c := 10) (bs := tl) rfl rfl hown9
      have H9 : Hid (Below W1.heap.size W1 V9) := mkHid ((HB3.out.alloc HB3.out.size _).grown hgrow9 (by have := HB3.out.size; simp; omega) (fun q hq => (HO3.out.lt hq).1))
      have U9 : Hid (OwnB V9 W1.heap.size v9 (graphL (es.take (i + 1)))) := mkHid (by rw [HGT.out]; have := h9; simpa [HTL.out, HT0.out, lineL, lineS, List.append_assoc] using this)
      clear hown9 hgrow9 h9
      go_wp2
      go_roundw
      case rel => exact ⟨i + 1, by omega, by simp, U9.out, H9.out⟩
      case measure => simp [intOf]; omega
    | false =>
      have hD0 : D ≠ ⟨#[]⟩ := by
       intro h
       rw [h] at hem
       simp [Lib.toList_data] at hem
      have HT0 : Hid (tailS ⟨fN, tN, k, y, .node nk ns nm kk⟩ = ⟨#[32]⟩ ++ D) := mkHid (by rw [HTA.out, if_neg hD0])
      have hb6 : ¬ 9223372036854775807 < 1 + D.size := by omega
      have hzz : (ByteArray.mk #[32] ++ D).size ≤ 4001 := by rw [ByteArray.size_append]; show 1 + D.size ≤ 4001; omega
      clear HTA
      go_wp2_with (at_builtin; refine Lib.wpList_append_own_stringF _ rfl _ _ 35 9 rfl W1.heap.size 5 i5 Tryz.underlying35 Tryz.underlying9 HJ.out.1 HJ.out.2.1 HJ.out.2.2.1 HJ.out.2.2.2 _ _ _ rfl HO3.out (⟨#[32]⟩ ++ D) rfl (by unfold maxLen; omega) (by omega) (by omega) ?_)
      intro v8 V8 hown8 hgrow8 _
      have h8 := OwnB.str (bs := tl) (s := ⟨#[32]⟩ ++ D) (by rw [ByteArray.size_append]; rfl) hown8
      obtain ⟨oa8, oc8, rfl⟩ := h8.form
      obtain ⟨tm, htm⟩ : ∃ t, t = tl ++ (ByteArray.mk #[32] ++ D).data.toList := ⟨_, rfl⟩
      rw [← htm] at h8 ⊢
      have htmn : tm.length ≤ 100020000 := by rw [htm, List.length_append, ← Lib.size_eq]; omega
      have HTM := mkHid htm
      have U8 := mkHid h8
      have H8 : Hid (Below W1.heap.size W1 V8) := mkHid (HB3.out.grown hgrow8 (by omega) (fun q hq => (HO3.out.lt hq).1))
      have hz8 := H8.out.size
      clear hown8 hgrow8 h8 htm
      go_wp2_with (at_builtin; refine wpList_append_ownF _ rfl _ _ 35 rfl W1.heap.size 5 i5 (.int .u8 0) 1 1 Tryz.underlying35 HJ.out.1 HJ.out.2.1 HJ.out.2.2.1 HJ.out.2.2.2 rfl (by decide) _ _ _ rfl (World.ownsRowF.alloc U8.out _) ⟨V8.heap.size, 0, none⟩ 1 1 [.int .u8 10] rfl rfl (oneB_new _ _ _) (by simp [Value.oneCell']) (by unfold maxLen; omega) (by omega) (by simp; omega) ?_)
      intro v9 V9 hown9 hgrow9 _
      have h9 := OwnB.one (c := 10) (bs := tm) rfl rfl hown9
      have H9 : Hid (Below W1.heap.size W1 V9) := mkHid ((H8.out.alloc H8.out.size _).grown hgrow9 (by have := H8.out.size; simp; omega) (fun q hq => (U8.out.lt hq).1))
      have U9 : Hid (OwnB V9 W1.heap.size v9 (graphL (es.take (i + 1)))) := mkHid (by rw [HGT.out]; have := h9; simpa [HTM.out, HTL.out, HT0.out, lineL, lineS, List.append_assoc] using this)
      clear hown9 hgrow9 h9
      go_wp2
      go_roundw
      case rel => exact ⟨i + 1, by omega, by simp, U9.out, H9.out⟩
      case measure => simp [intOf]; omega
  ·have i1 : ¬ (i : Int) < (es.length : Int) := by omega
   have hie : i = es.length := by omega
   subst hie
   have hcv := conv_all HOW.out rfl
   rw [List.take_length] at hcv
   simp only [List.take_length] at HOW
   rw [List.take_length]
   clear hbel
   go_wp2
   go_ret
   exact ⟨rfl, below_step HB1.out HBL.out⟩
end Go.Proofs.YtedfnadgmhjojaaGreatDoor
