/-
  CONTRACT of the program's GraphText.
-/
import Derived.Test.YtedfnadgmhjojaaGreatDoorMGf
import Derived.Test.YtedfnadgmhjojaaGreatDoorMBuild
import Derived.Deep.CutRange
namespace Go.Proofs.YtedfnadgmhjojaaGreatDoor
open Go.RowKit
open Pl
theorem itoa_any (n : Nat) (w : World) (hn : n ≤ 1000000) (ht : Lib.TabIs Tryz.prog w "internal/strconv.uint64pow10" .u64 Lib.pow10Tab) : Calls Tryz.prog 17 #[.int .i64 n] w fun e w' => e = .returned (.string (dec n)) ∧ Below w.heap.size w w' := by
 have hit : (ByteArray.mk (Lib.itoa (n : Int)).toArray) = dec n := by unfold dec Lib.itoa; rw [if_neg (by omega)]; simp
 have HI := Tryz.strconv_Itoa n (by omega) (by omega) w ht
 rw [hit] at HI
 refine HI.mono ?_
 rintro e w2 ⟨rfl, kd, os, hw2⟩
 have hb2 := Lib.below_grow _ w (Nat.le_refl _) kd os
 rw [← hw2] at hb2
 exact ⟨rfl, hb2⟩
abbrev Bld (w : World) (b : Nat) (l : List UInt8) : Prop := Lib.IsBuilderF 46 5 b b (Lib.byteCells l) w
theorem bld_below {w w' : World} {b : Nat} {l : List UInt8} (h : Bld w b l) (hb : Below w.heap.size w w') : Bld w' b l := by
 have one : ∀ p, Lib.BuilderAtF 46 5 b b p (Lib.byteCells l) w → Lib.BuilderAtF 46 5 b b p (Lib.byteCells l) w' := fun p hp => by
  have hlt := hp.lt
  obtain ⟨hB, v, hbk, hown, hne⟩ := hp
  exact ⟨hB, v, (hb.block b hlt).trans hbk, World.ownsRowF.kept hown (row := none) ⟨hb.os, hb.tape, hb.output, hb.size, fun k hk _ => hb.block k hk⟩ (by cases v.ownBlock <;> simp), hne⟩
 exact h.elim (fun x => .inl (one _ x)) (fun x => .inr (one _ x))
theorem bld_text {w : World} {b : Nat} {l : List UInt8} {s : ByteArray} (h : Lib.BuilderAtF 46 5 b b (.pointer (some ⟨b, 0, none⟩)) (Lib.byteCells l ++ Lib.strCells s) w) : Bld w b (l ++ s.data.toList) := by
 have e : Lib.byteCells (l ++ s.data.toList) = Lib.byteCells l ++ Lib.strCells s := by rw [Lib.byteCells_append]; rfl
 unfold Bld
 rw [e]
 exact .inr h
theorem bld_byte {w : World} {b : Nat} {l : List UInt8} {c : UInt8} {z : Int} (hc : z = c.toNat) (h : Lib.BuilderAtF 46 5 b b (.pointer (some ⟨b, 0, none⟩)) (Lib.byteCells l ++ [.int .u8 z]) w) : Bld w b (l ++ [c]) := by
 unfold Bld
 rw [Lib.byteCells_append]
 subst hc
 exact .inr h
set_option maxRecDepth 100000 in
set_option maxHeartbeats 16000000 in
theorem iGraph_yes (p : Int) (es : List Ed) (a : Option Addr) (c : Nat) (w : World) (hg : gokB p es = true) (hl : KidsG w 0 a es) (htab : Lib.TabIs Tryz.prog w "internal/strconv.uint64pow10" .u64 Lib.pow10Tab) :
    Calls Tryz.prog 7 #[.agg #[.int .i64 p, .slice a es.length c]] w fun e w' => e = .returned (.string ⟨(graphL es).toArray⟩) ∧ Below w.heap.size w w' := by
 obtain ⟨hp3, hn6, hall⟩ := gok_parts hg
 have HGK := mkHid hg
 have HAL := mkHid hall
 have HL := mkHid hl
 have HT := mkHid htab
 have hb0 := below_one w (.cells #[.int .i64 p, .slice a es.length c] 29)
 have h0 := heap_alloc_new w (.cells #[.int .i64 p, .slice a es.length c] 29)
 obtain ⟨w0, hw0⟩ : ∃ q, w.alloc (.cells #[.int .i64 p, .slice a es.length c] 29) = q := ⟨_, rfl⟩
 rw [hw0] at hb0 h0
 have HB0 := mkHid hb0
 have HX := mkHid h0
 have q0 : w0.cell? ⟨w.heap.size, 0, none⟩ = some (.int .i64 p) := by rw [Lib.cell_of_heap h0]; rfl
 have q1 : w0.cell? ⟨w.heap.size, 1, none⟩ = some (.slice a es.length c) := by rw [Lib.cell_of_heap h0]; rfl
 clear hl hg hb0 h0 hall htab
 go_enter Tryz.func7, Tryz.ntmps7
 go_wp2_with fail
 first | rw [hw0] | skip
 refine (iGraphOk_ok p es a c _ (HL.out.below HB0.out)).mono ?_
 rintro e w1 ⟨rfl, hb1⟩
 rw [HGK.out]
 have HB1 := mkHid (below_step HB0.out hb1)
 have hx1 := (hb1.block w.heap.size (Array.getElem?_eq_some_iff.1 HX.out).1).trans HX.out
 have hX : w.heap.size < w1.heap.size := (Array.getElem?_eq_some_iff.1 hx1).1
 clear hb1 q0 q1 HX hw0
 obtain ⟨W1, hW1⟩ : ∃ q, w1 = q := ⟨_, rfl⟩
 rw [hW1] at HB1 hx1 hX ⊢
 clear hW1
 have hbW := below_one W1 (.cells #[.pointer none, .slice none 0 0] 46)
 have hO0 := heap_alloc_new W1 (.cells #[.pointer none, .slice none 0 0] 46)
 have hx2 := (hbW.block w.heap.size hX).trans hx1
 have q1 : (W1.alloc (.cells #[.pointer none, .slice none 0 0] 46)).cell? ⟨w.heap.size, 1, none⟩ = some (.slice a es.length c) := by rw [Lib.cell_of_heap hx2]; rfl
 have HO0 : Hid (Bld (W1.alloc (.cells #[.pointer none, .slice none 0 0] 46)) W1.heap.size []) := mkHid (.inl ⟨Nat.le_refl _, .slice none 0 0, hO0, World.ownsRowF_nil _ _ _ _, by simp [Value.ownBlock]⟩)
 have HBW := mkHid hbW
 clear hbW hO0 hx1 hx2
 go_wp2
 clear q1
 go_loopw [13] (fun s13 wr => ∃ (i : Nat), i ≤ es.length ∧ s13 = .int .i64 i ∧ Bld wr W1.heap.size (graphL (es.take i)) ∧ Below W1.heap.size W1 wr) (fun s13 _ => es.length - (intOf s13).toNat)
 case atStart => exact ⟨0, Nat.zero_le _, rfl, HO0.out, HBW.out⟩
 case round =>
  obtain ⟨i, hi, rfl, hown, hbel⟩ := hrel
  have HOW := mkHid hown
  have HBL := mkHid hbel
  have hz := hbel.size
  have hlen2 : (graphL (es.take i)).length ≤ 100000000 := by
   have := graphL_len (es := es.take i) fun e he => ⟨(HAL.out e (List.mem_of_mem_take he)).1.2, (HAL.out e (List.mem_of_mem_take he)).2.1.2⟩
   rw [List.length_take] at this
   omega
  clear hown HO0 HBW
  by_cases hil : i < es.length
  ·obtain ⟨e0, he0⟩ : ∃ x, es[i]? = some x := ⟨_, List.getElem?_eq_getElem hil⟩
   have hmem := List.mem_of_getElem? he0
   obtain ⟨hf, ht, hk⟩ := HAL.out _ hmem
   have HGT := mkHid (graphL_take he0)
   obtain ⟨f, t, k, y, en⟩ := e0
   obtain ⟨nk, ns, nm, kk⟩ := en
   simp only at hf ht hk
   obtain ⟨b, o, rfl, hll⟩ : ∃ b o, a = some ⟨b, o, none⟩ ∧ LiesG W1 0 es b o := by
    rcases (HL.out.below HB1.out) with h | ⟨b, o, e, _, h⟩
    ·rw [h] at hil; simp at hil
    ·exact ⟨b, o, e, h⟩
   obtain ⟨xa, xc, g0, g1, g2, g3, g4, g5, g6, g7, hns, hkn, hkids⟩ := hll.at he0
   have hbl : b < W1.heap.size := World.block_lt_of_cell? W1 _ g0
   have gc : ∀ j, wr.cell? ⟨b, j, none⟩ = W1.cell? ⟨b, j, none⟩ := fun j => hbel.cell (p := ⟨b, j, none⟩) hbl
   rw [← gc] at g0 g1 g2 g3 g4 g5 g6 g7
   obtain ⟨fN, rfl⟩ : ∃ n : Nat, f = n := ⟨f.toNat, by omega⟩
   obtain ⟨tN, rfl⟩ : ∃ n : Nat, t = n := ⟨t.toNat, by omega⟩
   have HKI := mkHid hkids
   have HNS := mkHid (And.intro hns hkn)
   have i0 : (0 : Int) ≤ (i : Int) := by omega
   have i1 : (i : Int) < (es.length : Int) := by omega
   have w3 : IntKind.i64.wrap ((i : Int) + 1) = (i : Int) + 1 := IntWalk.i64_in _ (by omega)
   have hfN : fN ≤ 3000 := by omega
   have htN : tN ≤ 3000 := by omega
   have z1 := dec_size fN
   have z2 := dec_size tN
   have z3 := wordT_size k y
   have s1 : ¬ 9223372036854775807 < (dec fN).size + 1 := by omega
   have s2 : ¬ 9223372036854775807 < (dec fN).size + 1 + (wordT k y).size := by omega
   have s3 : ¬ 9223372036854775807 < (dec fN).size + 1 + (wordT k y).size + 1 := by omega
   have s4 : ¬ 9223372036854775807 < (dec fN).size + 1 + (wordT k y).size + 1 + (dec tN).size := by omega
   have hls : (dec fN ++ ⟨#[32]⟩ ++ wordT k y ++ ⟨#[32]⟩ ++ dec tN).size ≤ 6010 := by
    rw [ByteArray.size_append, ByteArray.size_append, ByteArray.size_append, ByteArray.size_append]
    show (dec fN).size + 1 + (wordT k y).size + 1 + (dec tN).size ≤ 6010
    omega
   have HLS := mkHid hls
   have htr := tab_below HT.out (below_step HB1.out (show Below W1.heap.size W1 wr from hbel))
   clear hll hkids he0 hmem gc hls z1 z2 z3 hns hkn
   have hbx := below_one wr (.cells #[.int .i64 fN, .int .i64 tN, .int .i64 k, .bool y, .int .i64 nk, .string ns, .int .i64 nm, .slice xa kk.length xc] 40)
   have h8 := heap_alloc_new wr (.cells #[.int .i64 fN, .int .i64 tN, .int .i64 k, .bool y, .int .i64 nk, .string ns, .int .i64 nm, .slice xa kk.length xc] 40)
   go_wp2
   obtain ⟨wx, hwx⟩ : ∃ q, wr.alloc (.cells #[.int .i64 fN, .int .i64 tN, .int .i64 k, .bool y, .int .i64 nk, .string ns, .int .i64 nm, .slice xa kk.length xc] 40) = q := ⟨_, rfl⟩
   rw [hwx] at hbx h8 ⊢
   have HTx := mkHid (tab_below htr hbx)
   have HBX := mkHid h8
   have HBx := mkHid hbx
   have HOX := mkHid (bld_below HOW.out hbx)
   have HBa := mkHid (Below.refl wx.heap.size wx).drew
   obtain ⟨c0, c1, c2, c3, c4, c5, c6, c7⟩ := eight_of (w := wx.drew) h8
   have UO := mkHid (bld_below HOX.out HBa.out)
   have hzx := hbx.size
   clear hwx hbx h8 htr
   go_cut [13] from 14 to 38 (fun s13 wc => s13 = .int .i64 i ∧ Bld wc W1.heap.size (graphL (es.take i) ++ (dec fN ++ ⟨#[32]⟩ ++ wordT k y ++ ⟨#[32]⟩ ++ dec tN).data.toList) ∧ Below W1.heap.size W1 wc ∧ wc.heap[wr.heap.size]? = some (.cells #[.int .i64 fN, .int .i64 tN, .int .i64 k, .bool y, .int .i64 nk, .string ns, .int .i64 nm, .slice xa kk.length xc] 40 (0, 0)))
   case first =>
    go_region_law (first | (go_simp; go_at_call 17; refine (itoa_any _ _ (by omega) (tab_below (tab_below HTx.out HBa.out) (Below.refl _ _))).mono ?_; rintro e u1 ⟨rfl, hb1⟩; have HBa := mkHid (below_step HBa.out hb1); clear hb1; obtain ⟨c0, c1, c2, c3, c4, c5, c6, c7⟩ := eight_of (eightF HBX.out HBa.out); have UO := mkHid (bld_below HOX.out HBa.out)) | (go_simp; go_at_call 18; refine (iWord_any fN tN k y nk nm ns xa kk.length xc _).mono ?_; rintro e u1 ⟨rfl, hb1⟩; have HBa := mkHid (below_step HBa.out hb1); clear hb1; obtain ⟨c0, c1, c2, c3, c4, c5, c6, c7⟩ := eight_of (eightF HBX.out HBa.out); have UO := mkHid (bld_below HOX.out HBa.out)) | (go_simp; go_at_call 16; refine (bWriteString_any W1.heap.size W1.heap.size _ _ _ UO.out (by rw [Lib.byteCells_length]; have := HLS.out; omega) (by have := HBa.out.size; omega)).mono ?_; rintro e u5 ⟨rfl, hu, hbu, hku⟩))
    all_goals
     go_wp2
     go_meet
     case rel => exact ⟨rfl, bld_text hu, ((HBL.out.trans (HBx.out.mono HBL.out.size)).trans (HBa.out.mono (Nat.le_trans HBL.out.size HBx.out.size))).trans hbu, hku wr.heap.size _ (eightF HBX.out HBa.out) (fun e => by have := Option.some.inj e; have h1 := (HOW.out.elim (·.lt) (·.lt)); omega) (fun c fz e => by simp at e)⟩
   case rest =>
    obtain ⟨rfl, hc1, hc2, hc3⟩ := hcut
    obtain ⟨tl, htl⟩ : ∃ t, t = graphL (es.take i) ++ (dec fN ++ ⟨#[32]⟩ ++ wordT k y ++ ⟨#[32]⟩ ++ dec tN).data.toList := ⟨_, rfl⟩
    rw [← htl] at hc1
    have htn : tl.length ≤ 100010000 := by rw [htl, List.length_append, ← Lib.size_eq]; have := HLS.out; omega
    have HTL := mkHid htl
    have HO2 := mkHid hc1
    have HB2 := mkHid hc2
    obtain ⟨c0, c1, c2, c3, c4, c5, c6, c7⟩ := eight_of hc3
    have HDS := mkHid (iDoes_any fN tN k y nk nm ns kk xa xc wc HNS.out.1 HNS.out.2 (HKI.out.below hc2) (tab_below HT.out (below_step HB1.out (show Below W1.heap.size W1 wc from hc2))))
    have hD4 := doesT_size k (.node nk ns nm kk)
    have HTA := mkHid (show tailS ⟨fN, tN, k, y, .node nk ns nm kk⟩ = if doesT k (.node nk ns nm kk) = ⟨#[]⟩ then ⟨#[]⟩ else ⟨#[32]⟩ ++ doesT k (.node nk ns nm kk) from rfl)
    obtain ⟨D, hD⟩ : ∃ D, doesT k (.node nk ns nm kk) = D := ⟨_, rfl⟩
    rw [hD] at HDS hD4 HTA
    clear hc1 hc2 hc3 htl hD HKI HLS HBX HBx HOX HBa UO HOW HBL HTx s1 s2 s3 s4
    go_wp2_with fail
    refine HDS.out.mono ?_
    rintro e w9 ⟨rfl, hb9⟩
    have HO3 : Hid (Bld w9 W1.heap.size tl) := mkHid (bld_below HO2.out hb9)
    have HB3 := mkHid (HB2.out.trans (hb9.mono HB2.out.size))
    have hz9 := HB3.out.size
    clear hb9 HO2 HB2 HDS c0 c1 c2 c3 c4 c5 c6 c7
    cases hem : D.toList.isEmpty with
    | true =>
      have hD0 : D = ⟨#[]⟩ := by
       have h2 : D.data.toList = [] := by rw [← Lib.toList_data]; simpa using hem
       exact ByteArray.ext (Array.toList_inj.1 (by simpa using h2))
      have HT0 : Hid (tailS ⟨fN, tN, k, y, .node nk ns nm kk⟩ = ⟨#[]⟩) := mkHid (by rw [HTA.out, if_pos hD0])
      clear HTA
      go_wp2_with fail
      refine (writeByte_any W1.heap.size W1.heap.size _ 10 _ HO3.out (by rw [Lib.byteCells_length]; omega) (by omega)).mono ?_
      rintro e V9 ⟨rfl, hu9, hbu9, hku9⟩
      have h9 := bld_byte (c := 10) rfl hu9
      have H9 : Hid (Below W1.heap.size W1 V9) := mkHid (HB3.out.trans hbu9)
      have U9 : Hid (Bld V9 W1.heap.size (graphL (es.take (i + 1)))) := mkHid (by rw [HGT.out]; have := h9; simpa [HTL.out, HT0.out, lineL, lineS, List.append_assoc] using this)
      clear hu9 hbu9 hku9 h9
      go_wp2
      go_roundw
      case rel => exact ⟨i + 1, by omega, by simp, U9.out, H9.out⟩
      case measure => simp [intOf]; omega
    | false =>
      have hD0 : D ≠ ⟨#[]⟩ := by
       intro h
       rw [h] at hem
       simp [Lib.toList_data] at hem
      have HT0 : Hid (tailS ⟨fN, tN, k, y, .node nk ns nm kk⟩ = ⟨#[32]⟩ ++ D) := mkHid (by rw [HTA.out, if_neg hD0])
      have hb6 : ¬ 9223372036854775807 < 1 + D.size := by omega
      have hzz : (ByteArray.mk #[32] ++ D).size ≤ 4001 := by rw [ByteArray.size_append]; show 1 + D.size ≤ 4001; omega
      clear HTA
      go_wp2_with fail
      have hlx : (Lib.byteCells tl).length + (ByteArray.mk #[32] ++ D).size ≤ 140737488355328 := by rw [Lib.byteCells_length]; omega
      obtain ⟨X, hX⟩ : ∃ X, ByteArray.mk #[32] ++ D = X := ⟨_, rfl⟩
      rw [hX] at hlx hzz HT0 ⊢
      refine (bWriteString_any W1.heap.size W1.heap.size (Lib.byteCells tl) X w9 HO3.out hlx (by omega)).mono ?_
      rintro e V8 ⟨rfl, hu8, hbu8, hku8⟩
      obtain ⟨tm, htm⟩ : ∃ t, t = tl ++ X.data.toList := ⟨_, rfl⟩
      have h8 := bld_text hu8
      clear hX hlx
      rw [← htm] at h8
      have htmn : tm.length ≤ 100020000 := by rw [htm, List.length_append, ← Lib.size_eq]; omega
      have HTM := mkHid htm
      have U8 := mkHid h8
      have H8 : Hid (Below W1.heap.size W1 V8) := mkHid (HB3.out.trans hbu8)
      have hz8 := H8.out.size
      clear hu8 hbu8 hku8 h8 htm
      go_wp2_with fail
      refine (writeByte_any W1.heap.size W1.heap.size _ 10 _ U8.out (by rw [Lib.byteCells_length]; omega) (by omega)).mono ?_
      rintro e V9 ⟨rfl, hu9, hbu9, hku9⟩
      have h9 := bld_byte (c := 10) rfl hu9
      have H9 : Hid (Below W1.heap.size W1 V9) := mkHid (H8.out.trans hbu9)
      have U9 : Hid (Bld V9 W1.heap.size (graphL (es.take (i + 1)))) := mkHid (by rw [HGT.out]; have := h9; simpa [HTM.out, HTL.out, HT0.out, lineL, lineS, List.append_assoc] using this)
      clear hu9 hbu9 hku9 h9
      go_wp2
      go_roundw
      case rel => exact ⟨i + 1, by omega, by simp, U9.out, H9.out⟩
      case measure => simp [intOf]; omega
  ·have i1 : ¬ (i : Int) < (es.length : Int) := by omega
   have hie : i = es.length := by omega
   subst hie
   rw [List.take_length] at HOW
   clear hbel
   go_wp2_with fail
   refine (Tryz.Builder_String_any_k W1.heap.size W1.heap.size (graphL es) _ HOW.out (by omega)).mono ?_
   rintro e w5 ⟨rfl, _, hb5, _⟩
   have HB5 := mkHid (HBL.out.trans hb5)
   clear hb5
   go_wp2
   go_ret
   exact ⟨rfl, below_step HB1.out HB5.out⟩
end Go.Proofs.YtedfnadgmhjojaaGreatDoor
