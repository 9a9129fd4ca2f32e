/-
  CONTRACTS of both SegTexts.
  CONTRACTS of the law's toSymSS, szSymSS.
  CONTRACTS of the law's toValS.
  CONTRACTS of the law's toBoolS.
-/
import Derived.Test.YthfiblldccnjcaaGreatDoorSx
import Derived.Test.YthfiblldccnjcaaGreatDoorIc
import Derived.Test.YthfiblldccnjcaaGreatDoorSos
import Derived.Test.YthfiblldccnjcaaGreatDoorSb
import Derived.Test.YthfiblldccnjcaaGreatDoorVh
import Derived.Test.YthfiblldccnjcaaGreatDoorMm
namespace Go.Proofs.YthfiblldccnjcaaGreatDoor
open Go.RowKit

def FitS (n lv : Int) (S : SG) (nm : List ByteArray) : Prop := OkS n lv S.B S.V S.M ∧ (nm.length : Int) = n - 1 ∧ labsB nm = true
/-- What SegText answers. -/
def TextP (n lv : Int) (S : SG) (nm : List ByteArray) (t : ByteArray) : Prop := (FitS n lv S nm → t = joinS [32] (pcs nm S (S.B.length - 1))) ∧ (¬ FitS n lv S nm → t = ⟨#[]⟩)
theorem TextP.no {n lv : Int} {S : SG} {nm : List ByteArray} (h : ¬ FitS n lv S nm) : TextP n lv S nm ⟨#[]⟩ := ⟨fun g => absurd g h, fun _ => rfl⟩
theorem TextP.yes {n lv : Int} {S : SG} {nm : List ByteArray} (h : FitS n lv S nm) : TextP n lv S nm (joinS [32] (pcs nm S (S.B.length - 1))) := ⟨fun _ => rfl, fun g => absurd h g⟩
theorem TextP.same {n lv : Int} {S : SG} {nm : List ByteArray} {t u : ByteArray} (h : TextP n lv S nm t) (g : TextP n lv S nm u) : t = u := by
  by_cases q : FitS n lv S nm
  · rw [h.1 q, g.1 q]
  · rw [h.2 q, g.2 q]
theorem row_le : ∀ (B : List (List Y)) (b : List Y), b ∈ B → b.length ≤ B.flatten.length
  | [], b, h => by cases h
  | c :: B, b, h => by
    rw [List.flatten_cons, List.length_append]
    rcases List.mem_cons.1 h with e | e
    · rw [e]; omega
    · have := row_le B b e; omega
theorem fine_of {n lv : Int} {S : SG} {m : Nat} (h : OkS n lv S.B S.V S.M) (hm : S.B.length - 1 = m) : Fine3 S m :=
  ⟨by have := h.k1; omega, by have := h.v; omega, by have := h.m; omega, by have := h.k2; omega, fun k b hb => ⟨(h.rows b (List.mem_of_getElem? hb)).ne, Nat.le_trans (row_le _ _ (List.mem_of_getElem? hb)) h.tot⟩⟩
theorem gd_le {S : SG} {m : Nat} (h : Fine3 S m) (k : Nat) : (S.B.getD k []).length ≤ 40 := by
  rw [List.getD_eq_getElem?_getD]
  cases e : S.B[k]? with
  | none => exact Nat.zero_le _
  | some b => exact (h.ne k b e).2
set_option maxRecDepth 100000 in
set_option maxHeartbeats 3200000 in
theorem iSegText_any (n lv : Int) (S : SG) (A : SAd) (nm : List ByteArray) (b off cap : Nat) (w : World) (hs : Small S) (hl : SegAt w A S) (hF : Fit nm 1048576) (hn : StrsIn w nm b off) (ht : Tab w) :
    Calls Tryz.prog 9 #[.int .i64 n, .int .i64 lv, .agg #[.slice A.a0 S.B.length A.c0, .slice A.a1 S.V.length A.c1, .slice A.a2 S.M.length A.c2], .slice (some ⟨b, off, none⟩) nm.length cap] w fun e w' => Below w.heap.size w w' ∧ ∃ t, e = .returned (.string t) ∧ TextP n lv S nm t := by
  have HS := mkHid hs
  have HF := mkHid hF
  have A1 := below_alloc w (.cells #[.slice A.a0 S.B.length A.c0, .slice A.a1 S.V.length A.c1, .slice A.a2 S.M.length A.c2] 34)
  have G1 := mkHid (G3.new w (.slice A.a0 S.B.length A.c0) (.slice A.a1 S.V.length A.c1) (.slice A.a2 S.M.length A.c2) 34)
  have S1 := mkHid (hl.below A1)
  have N1 := mkHid (hn.below A1)
  have B1 := mkHid A1
  have T1 := mkHid (ht.below A1)
  have hnl := hF.1
  obtain ⟨w1, hw1⟩ : ∃ x, w.alloc (.cells #[.slice A.a0 S.B.length A.c0, .slice A.a1 S.V.length A.c1, .slice A.a2 S.M.length A.c2] 34) = x := ⟨_, rfl⟩
  rw [hw1] at G1 S1 N1 B1 T1
  obtain ⟨X, hX⟩ : ∃ x, w.heap.size = x := ⟨_, rfl⟩
  rw [hX] at G1
  clear hs hl hF hn A1 ht
  obtain ⟨q0, q1, q2, _, _, _⟩ := G1.out
  go_enter Tryz.func9, Tryz.ntmps9
  go_wp2_with fail
  clear hw1 hX
  refine (iSegOk_any n lv S A w1 HS.out S1.out).mono ?_
  rintro e w2 ⟨hb, r, rfl, hr⟩
  have HR := mkHid hr
  have B2 := mkHid (below_step B1.out hb)
  have G2 := mkHid (G1.out.below hb)
  have S2 := mkHid (S1.out.below hb)
  have N2 := mkHid (N1.out.below hb)
  have T2 := mkHid (T1.out.below hb)
  clear hb hr B1 G1 S1 N1 T1 q0 q1 q2
  cases r with
  | false =>
    have E := mkHid (TextP.no (n := n) (lv := lv) (S := S) (nm := nm) (fun h => by have := HR.out.2 h.1; cases this))
    go_wp2
    go_ret
    exact ⟨B2.out, _, rfl, E.out⟩
  | true =>
    have HOK := mkHid (HR.out.1 rfl)
    have hlen := HOK.out.len
    obtain ⟨⟨h2, h13⟩, -⟩ := hlen
    have hw : IntKind.i64.wrap (n - 1) = n - 1 := IntWalk.i64_in _ ⟨by omega, by omega⟩
    by_cases hle : (nm.length : Int) = n - 1
    · have hb3 : ((nm.length : Int) != n - 1) = false := by simp [hle]
      have HLE := mkHid hle
      have HLB : Hid (Calls Tryz.prog 22 #[.slice (some ⟨b, off, none⟩) nm.length cap] w2 fun e w' => e = .returned (.bool (labsB nm)) ∧ Below w2.heap.size w2 w') := mkHid (areLabels_of nm b off cap w2 HF.out N2.out)
      obtain ⟨q0, q1, q2, _, _, _⟩ := G2.out
      cases hlb : labsB nm with
      | false =>
        have E := mkHid (TextP.no (n := n) (lv := lv) (S := S) (nm := nm) (fun h => by have := h.2.2; rw [hlb] at this; cases this))
        rw [hlb] at HLB
        clear hle
        go_wp2_with fail
        refine HLB.out.mono ?_
        rintro e w3 ⟨rfl, hb⟩
        have B3 := mkHid (below_step B2.out hb)
        clear hb
        go_wp2
        go_ret
        exact ⟨B3.out, _, rfl, E.out⟩
      | true =>
        have E := mkHid (TextP.yes (n := n) (lv := lv) (S := S) (nm := nm) ⟨HOK.out, HLE.out, hlb⟩)
        rw [hlb] at HLB
        obtain ⟨m, hm⟩ : ∃ m, S.B.length - 1 = m := ⟨_, rfl⟩
        have H3 : Hid (Fine3 S m) := mkHid (fine_of HOK.out hm)
        rw [hm] at E
        clear hle hm
        go_wp2_with fail
        refine HLB.out.mono ?_
        rintro e w3 ⟨rfl, hb⟩
        have B3 := mkHid (below_step B2.out hb)
        have G3' := mkHid (G2.out.below hb)
        have S3 := mkHid (S2.out.below hb)
        have N3 := mkHid (N2.out.below hb)
        have T3 := mkHid (T2.out.below hb)
        clear hb q0 q1 q2
        obtain ⟨q0, q1, q2, _, _, _⟩ := G3'.out
        go_wp2_with fail
        refine (rowOf_any S A w3 HS.out HOK.out.k1 HOK.out.v HOK.out.m (fun b9 hb9 => (HOK.out.rows b9 hb9).asc) S3.out).mono ?_
        rintro e w4 ⟨hb, Z, rfl, hch⟩
        have B4 := mkHid (below_step B3.out hb)
        have N4 := mkHid (N3.out.below hb)
        have T4 := mkHid (T3.out.below hb)
        have HCH := mkHid hch
        clear hb hch q0 q1 q2
        go_wp2_with fail
        refine (texts_any S m Z nm b off cap w4 H3.out HCH.out HF.out N4.out T4.out).mono ?_
        rintro e w5 ⟨so, sc, rfl, ho, hb⟩
        have B5 := mkHid (below_step B4.out hb)
        have hpl := pcs_len nm S m
        have h16 := H3.out.n16
        have hjs := joinS_size [32] (pcs nm S m) 300000000 (fun s hs => pcs_size HF.out (fun k => gd_le H3.out k) m s hs)
        have hj2 : (pcs nm S m).length * (300000000 + [32].length (α := UInt8)) ≤ 46 * (300000000 + 1) := Nat.mul_le_mul_right _ (by omega)
        obtain ⟨g, rfl, hg, hcp, hcl⟩ := OwnG.cells ho (pcs_ne nm S m)
        have HJ := mkHid (Tryz.strings_Join g 0 sc (pcs nm S m) ⟨#[32]⟩ w5 hcl hg (by omega) hcp (by rw [← joinS_len [32] (pcs nm S m)]; omega))
        obtain ⟨t, htt⟩ : ∃ t, joinS [32] (pcs nm S m) = t := ⟨_, rfl⟩
        obtain ⟨q, hq⟩ : ∃ q, (pcs nm S m).length = q := ⟨_, rfl⟩
        have HJ2 : Hid (Calls Tryz.prog 23 #[.slice (some ⟨g, 0, none⟩) q sc, .string ⟨#[32]⟩] w5 fun e w' => e = .returned (.string t) ∧ Below w5.heap.size w5 w') := mkHid (by rw [← htt, ← hq]; exact HJ.out)
        rw [htt] at E
        rw [hq]
        clear ho hb hpl h16 hjs hj2 hg hcp hcl HJ htt hq
        go_wp2_with fail
        refine HJ2.out.mono ?_
        rintro e w6 ⟨rfl, hb⟩
        have B6 := mkHid (below_step B5.out hb)
        clear hb
        go_wp2
        go_ret
        exact ⟨B6.out, _, rfl, E.out⟩
    · have hb3 : ((nm.length : Int) != n - 1) = true := by simpa using hle
      have E := mkHid (TextP.no (n := n) (lv := lv) (S := S) (nm := nm) (fun h => hle h.2.1))
      clear hle
      go_wp2
      go_ret
      exact ⟨B2.out, _, rfl, E.out⟩
set_option maxRecDepth 100000 in
set_option maxHeartbeats 3200000 in
theorem sSegText_any (n lv : Int) (S : SG) (A : SAd) (nm : List ByteArray) (b off cap : Nat) (w : World) (hs : Small S) (hl : SegAt w A S) (hF : Fit nm 1048576) (hn : StrsIn w nm b off) :
    Calls Tryz.prog 6 #[.int .i64 n, .int .i64 lv, .agg #[.slice A.a0 S.B.length A.c0, .slice A.a1 S.V.length A.c1, .slice A.a2 S.M.length A.c2], .slice (some ⟨b, off, none⟩) nm.length cap] w fun e w' => Below w.heap.size w w' ∧ ∃ t, e = .returned (.string t) ∧ TextP n lv S nm t := by
  have HS := mkHid hs
  have HF := mkHid hF
  have A1 := below_alloc w (.cells #[.slice A.a0 S.B.length A.c0, .slice A.a1 S.V.length A.c1, .slice A.a2 S.M.length A.c2] 34)
  have G1 := mkHid (G3.new w (.slice A.a0 S.B.length A.c0) (.slice A.a1 S.V.length A.c1) (.slice A.a2 S.M.length A.c2) 34)
  have S1 := mkHid (hl.below A1)
  have N1 := mkHid (hn.below A1)
  have B1 := mkHid A1
  have hnl := hF.1
  obtain ⟨w1, hw1⟩ : ∃ x, w.alloc (.cells #[.slice A.a0 S.B.length A.c0, .slice A.a1 S.V.length A.c1, .slice A.a2 S.M.length A.c2] 34) = x := ⟨_, rfl⟩
  rw [hw1] at G1 S1 N1 B1
  obtain ⟨X, hX⟩ : ∃ x, w.heap.size = x := ⟨_, rfl⟩
  rw [hX] at G1
  clear hs hl hF hn A1
  obtain ⟨q0, q1, q2, _, _, _⟩ := G1.out
  go_enter Tryz.func6, Tryz.ntmps6
  go_wp2_with fail
  clear hw1 hX
  refine (sSegOk_any n lv S A w1 HS.out S1.out).mono ?_
  rintro e w2 ⟨hb, r, rfl, hr⟩
  have HR := mkHid hr
  have B2 := mkHid (below_step B1.out hb)
  have G2 := mkHid (G1.out.below hb)
  have S2 := mkHid (S1.out.below hb)
  have N2 := mkHid (N1.out.below hb)
  clear hb hr B1 G1 S1 N1 q0 q1 q2
  cases r with
  | false =>
    have E := mkHid (TextP.no (n := n) (lv := lv) (S := S) (nm := nm) (fun h => by have := HR.out.2 h.1; cases this))
    go_wp2
    go_ret
    exact ⟨B2.out, _, rfl, E.out⟩
  | true =>
    have HOK := mkHid (HR.out.1 rfl)
    have hlen := HOK.out.len
    obtain ⟨⟨h2, h13⟩, -⟩ := hlen
    have hw : IntKind.i64.wrap (n - 1) = n - 1 := IntWalk.i64_in _ ⟨by omega, by omega⟩
    by_cases hle : (nm.length : Int) = n - 1
    · have hb3 : ((nm.length : Int) != n - 1) = false := by simp [hle]
      have HLE := mkHid hle
      have HLB : Hid (Calls Tryz.prog 16 #[.slice (some ⟨b, off, none⟩) nm.length cap] w2 fun e w' => e = .returned (.bool (labsB nm)) ∧ Below w2.heap.size w2 w') := mkHid (by
        have h := sLabels_of nm b off cap w2 HF.out N2.out
        rw [show decide (nm.length < 13) = true from decide_eq_true (by omega), Bool.true_and] at h
        exact h)
      obtain ⟨q0, q1, q2, _, _, _⟩ := G2.out
      cases hlb : labsB nm with
      | false =>
        have E := mkHid (TextP.no (n := n) (lv := lv) (S := S) (nm := nm) (fun h => by have := h.2.2; rw [hlb] at this; cases this))
        rw [hlb] at HLB
        clear hle
        go_wp2_with fail
        refine HLB.out.mono ?_
        rintro e w3 ⟨rfl, hb⟩
        have B3 := mkHid (below_step B2.out hb)
        clear hb
        go_wp2
        go_ret
        exact ⟨B3.out, _, rfl, E.out⟩
      | true =>
        have E := mkHid (TextP.yes (n := n) (lv := lv) (S := S) (nm := nm) ⟨HOK.out, HLE.out, hlb⟩)
        rw [hlb] at HLB
        obtain ⟨m, hm⟩ : ∃ m, S.B.length - 1 = m := ⟨_, rfl⟩
        have H3 : Hid (Fine3 S m) := mkHid (fine_of HOK.out hm)
        rw [hm] at E
        clear hle hm
        go_wp2_with fail
        refine HLB.out.mono ?_
        rintro e w3 ⟨rfl, hb⟩
        have B3 := mkHid (below_step B2.out hb)
        have G3' := mkHid (G2.out.below hb)
        have S3 := mkHid (S2.out.below hb)
        have N3 := mkHid (N2.out.below hb)
        clear hb q0 q1 q2
        obtain ⟨q0, q1, q2, _, _, _⟩ := G3'.out
        go_wp2_with fail
        refine (l10Text_any S A m nm b off cap w3 H3.out S3.out HF.out N3.out).mono ?_
        rintro e w4 ⟨rfl, hb⟩
        have B4 := mkHid (below_step B3.out hb)
        obtain ⟨t, htt⟩ : ∃ t, joinS [32] (pcs nm S m) = t := ⟨_, rfl⟩
        rw [htt] at E ⊢
        clear hb htt
        go_wp2
        go_ret
        exact ⟨B4.out, _, rfl, E.out⟩
    · have hb3 : ((nm.length : Int) != n - 1) = true := by simpa using hle
      have E := mkHid (TextP.no (n := n) (lv := lv) (S := S) (nm := nm) (fun h => hle h.2.1))
      clear hle
      go_wp2
      go_ret
      exact ⟨B2.out, _, rfl, E.out⟩
end Go.Proofs.YthfiblldccnjcaaGreatDoor
namespace Go.Proofs.YthfiblldccnjcaaGreatDoor
open Go.RowKit

theorem Tryz.info58 : (Tryz.prog.info? 58).map (fun i => (i.zero, i.size, i.bytes)) = some (some (.slice none 0 0), 1, 24) := by kernel_rfl
set_option maxRecDepth 100000 in
set_option maxHeartbeats 1600000 in
theorem toSymSS_any (ls : List (List Y)) (a : Option Addr) (c : Nat) (w : World) (hn : ls.length ≤ 1048576) (ht : tot ls ≤ 1048576) (hl : BndsAt w a ls) :
    Calls Tryz.prog 18 #[.slice a ls.length c] w fun e w' => ∃ g, e = .returned (.slice (some ⟨g, 0, none⟩) ls.length ls.length) ∧ OwnYY w' w.heap.size (.slice (some ⟨g, 0, none⟩) ls.length ls.length) ls ∧ Below w.heap.size w w' := by
  obtain ⟨i0, hi, hz⟩ := Option.map_eq_some_iff.1 Tryz.info58
  simp only [Prod.mk.injEq] at hz
  obtain ⟨hz0, hz1, hz2⟩ := hz
  obtain ⟨w1, hmk, hown0, hg0⟩ := run_make_full (P := Tryz.prog) w w.heap.size 31 58 i0 _ 1 Tryz.underlying31 hi hz0 hz1 .i64 .i64 ls.length (by rw [hz2]; omega) (by unfold maxLen; omega) (Nat.le_refl _)
  obtain ⟨g, hgg⟩ : ∃ g, w.heap.size = g := ⟨_, rfl⟩
  have HGG := mkHid hgg
  rw [hgg] at hmk hown0
  have HL := mkHid hl
  have HO := mkHid hown0
  have HT := mkHid ht
  have HG := mkHid (Below.grown (Below.refl w.heap.size w) hg0 (Nat.le_refl _) (fun k hk => by cases hk))
  clear hl hown0 hg0 hi hz0 hz1 hz2 hgg ht
  go_enter Tryz.func18, Tryz.ntmps18
  go_wp2
  go_loopw [4] (fun i w' => ∃ (k : Nat) (xs : List Value), k ≤ ls.length ∧ i = .int .i64 k ∧ w'.ownsRow g 58 1 (.slice (some ⟨g, 0, none⟩) ls.length ls.length) ls.length xs ∧ Inn w' g (xs.take k) (ls.take k) ∧ Below w.heap.size w w') (fun i _ => ls.length - (intOf i).toNat)
  case atStart => exact ⟨0, _, Nat.zero_le _, rfl, HO.out, by simpa using Inn.nil _ _, HG.out⟩
  case round =>
    obtain ⟨k, xs, hk, rfl, hown, hinn, hbel⟩ := hrel
    have HW := mkHid hown
    have HI := mkHid hinn
    have HB := mkHid hbel
    clear hown hinn hbel HO HG hmk
    by_cases hlt : k < ls.length
    · obtain ⟨l, hx⟩ : ∃ x, ls[k]? = some x := ⟨_, List.getElem?_eq_getElem hlt⟩
      obtain ⟨b, o, rfl, _, hl⟩ := (HL.out.below HB.out).cons (by omega)
      obtain ⟨ao, cp, c0, hat⟩ := hl k l hx
      have HX := mkHid hx
      have HAT := mkHid hat
      have hll := tot_get hx
      clear hl hx hat
      have i0 : (0 : Int) ≤ (k : Int) := by omega
      have i1 : (k : Int) < (ls.length : Int) := by omega
      go_wp2_with fail
      refine (toSymS_any l ao cp _ (by have := HT.out; omega) HAT.out).mono ?_
      rintro e w2 ⟨gn, rfl, hon, hb1⟩
      have HW1 := mkHid (owns_below HW.out hb1)
      have HI1 := mkHid (HI.out.below hb1)
      have HB1 := mkHid (below_step HB.out hb1)
      have HN := mkHid hon
      have HLT : Hid (∀ (i : Nat) (v : Value) (q : Nat), (xs.take k)[i]? = some v → v.ownBlock = some q → q < wr.heap.size) := mkHid fun i v q h1 h2 => (HI.out.lt h1 h2).2
      have hxl := HW1.out.1
      have hgw : g < wr.heap.size := (World.ownsRow.lt HW.out g rfl).2
      have HGW := mkHid hgw
      have HGS : Hid (wr.heap.size ≤ gn) := mkHid ((HN.out.lt (q := gn) rfl).1)
      clear hb1 hon HB HW HI c0 hgw
      obtain ⟨u0, y0⟩ : ∃ v, w2.cell? ⟨g, k, none⟩ = some v := ⟨_, (HW1.out.cellAt k (by omega)).trans (List.getElem?_eq_getElem (by omega))⟩
      have z0 := HW1.out.frozenAt k
      have HA := mkHid (HW1.out.stored k (.slice (some ⟨gn, 0, none⟩) l.length l.length))
      have HXL := mkHid hxl
      clear hxl
      go_wp2
      go_roundw
      case rel =>
        have hxl := HXL.out
        refine ⟨k + 1, _, by omega, by go_num, HA.out.1, ?_, HB1.out.setCell (p := ⟨g, k, none⟩) (Nat.le_of_eq HGG.out) _⟩
        have e1 : (xs.set k (.slice (some ⟨gn, 0, none⟩) l.length l.length)).take (k + 1) = xs.take k ++ [.slice (some ⟨gn, 0, none⟩) l.length l.length] := by
          rw [List.take_succ_eq_append_getElem (by simp; omega)]
          simp [List.take_set_of_le]
        rw [e1, take_snoc HX.out]
        have hg2 := HA.out.2
        refine Inn.snoc (n0 := wr.heap.size) ?_ HLT.out (Nat.le_of_lt HGW.out) ?_
        · refine HI1.out.keptBy hg2 fun q cur e hc => ?_
          have e' : g = q := Option.some.inj e
          subst e'
          rcases HW1.out.2 with ⟨e2, _⟩ | ⟨g2, _, cur2, e2, _, hg3, _⟩
          · simp at e2
          · simp at e2
            obtain ⟨rfl, rfl⟩ := e2
            rw [hc] at hg3
            simp at hg3
        · refine HN.out.keptBy hg2 fun q hq e => ?_
          have e' : g = q := Option.some.inj e
          have e'' : gn = q := Option.some.inj hq
          have h1 := HGS.out
          have h2 := HGW.out
          omega
      case measure => simp [intOf]; omega
    · have e : k = ls.length := by omega
      subst e
      have hinn := HI.out
      have hxl := HW.out.1
      rw [List.take_of_length_le (by omega), List.take_length] at hinn
      have HI := mkHid hinn
      clear hinn hxl
      go_wp2
      go_ret
      exact ⟨g, rfl, ⟨xs, by rw [HGG.out]; exact HW.out, by rw [HGG.out]; exact HI.out⟩, HB.out⟩
/-- What is left of a size. -/
def szN (left : Int) (n : Nat) : Int := if left - n < 0 then -1 else left - n
def szL (left : Int) : List (List Y) → Int
  | [] => left
  | l :: ls => if szN left l.length < 0 then -1 else szL (szN left l.length) ls
theorem szSymS_any (a : Option Addr) (n c : Nat) (left : Int) (w : World) (hn : n ≤ maxLen) (h0 : 0 ≤ left) (h1 : left ≤ 1048576) :
    Calls Tryz.prog 29 #[.slice a n c, .int .i64 left] w fun e w' => e = .returned (.int .i64 (szN left n)) ∧ w = w' := by
  unfold maxLen at hn
  unfold szN
  by_cases h : left - n < 0
  · rw [if_pos h]
    go_enter Tryz.func29, Tryz.ntmps29
    go_wp2
    go_ret
    exact ⟨rfl, rfl⟩
  · rw [if_neg h]
    go_enter Tryz.func29, Tryz.ntmps29
    go_wp2
    go_ret
    exact ⟨rfl, rfl⟩
theorem szValS_any (a : Option Addr) (n c : Nat) (left : Int) (w : World) (hn : n ≤ maxLen) (h0 : 0 ≤ left) (h1 : left ≤ 1048576) :
    Calls Tryz.prog 13 #[.slice a n c, .int .i64 left] w fun e w' => e = .returned (.int .i64 (szN left n)) ∧ w = w' := by
  unfold maxLen at hn
  unfold szN
  by_cases h : left - n < 0
  · rw [if_pos h]
    go_enter Tryz.func13, Tryz.ntmps13
    go_wp2
    go_ret
    exact ⟨rfl, rfl⟩
  · rw [if_neg h]
    go_enter Tryz.func13, Tryz.ntmps13
    go_wp2
    go_ret
    exact ⟨rfl, rfl⟩
theorem szBoolS_any (a : Option Addr) (n c : Nat) (left : Int) (w : World) (hn : n ≤ maxLen) (h0 : 0 ≤ left) (h1 : left ≤ 1048576) :
    Calls Tryz.prog 14 #[.slice a n c, .int .i64 left] w fun e w' => e = .returned (.int .i64 (szN left n)) ∧ w = w' := by
  unfold maxLen at hn
  unfold szN
  by_cases h : left - n < 0
  · rw [if_pos h]
    go_enter Tryz.func14, Tryz.ntmps14
    go_wp2
    go_ret
    exact ⟨rfl, rfl⟩
  · rw [if_neg h]
    go_enter Tryz.func14, Tryz.ntmps14
    go_wp2
    go_ret
    exact ⟨rfl, rfl⟩
end Go.Proofs.YthfiblldccnjcaaGreatDoor
namespace Go.Proofs.YthfiblldccnjcaaGreatDoor
open Go.RowKit

theorem Tryz.info68 : (Tryz.prog.info? 68).map (fun i => (i.zero, i.size, i.bytes)) = some (some (.agg #[.int .i64 0, .int .i64 0, .bool false]), 3, 24) := by kernel_rfl
set_option maxRecDepth 100000 in
set_option maxHeartbeats 1600000 in
theorem toValS_any (l : List VV) (a : Option Addr) (c : Nat) (w : World) (hn : l.length ≤ 1048576) (hl : At eV w a l) :
    Calls Tryz.prog 19 #[.slice a l.length c] w fun e w' => ∃ g, e = .returned (.slice (some ⟨g, 0, none⟩) l.length l.length) ∧ Own eV 68 w' w.heap.size (.slice (some ⟨g, 0, none⟩) l.length l.length) l ∧ Below w.heap.size w w' := by
  obtain ⟨i0, hi, hz⟩ := Option.map_eq_some_iff.1 Tryz.info68
  simp only [Prod.mk.injEq] at hz
  obtain ⟨hz0, hz1, hz2⟩ := hz
  obtain ⟨w1, hmk, hown0, hg0⟩ := run_make_full (P := Tryz.prog) w w.heap.size 32 68 i0 _ 3 Tryz.underlying32 hi hz0 hz1 .i64 .i64 l.length (by rw [hz2]; omega) (by unfold maxLen; omega) (Nat.le_refl _)
  obtain ⟨g, hgg⟩ : ∃ g, w.heap.size = g := ⟨_, rfl⟩
  have HGG := mkHid hgg
  rw [hgg] at hmk hown0
  have HL := mkHid hl
  have HO := mkHid hown0
  have HG := mkHid (Below.grown (Below.refl w.heap.size w) hg0 (Nat.le_refl _) (fun k hk => by cases hk))
  clear hl hown0 hg0 hi hz0 hz1 hz2 hgg
  go_enter Tryz.func19, Tryz.ntmps19
  go_wp2
  go_loopw [4] (fun i w' => ∃ (k : Nat) (xs : List Value), k ≤ l.length ∧ i = .int .i64 k ∧ w'.ownsRow g 68 3 (.slice (some ⟨g, 0, none⟩) l.length l.length) l.length xs ∧ xs.take (k * 3) = eV.flat (l.take k) ∧ Below w.heap.size w w') (fun i _ => l.length - (intOf i).toNat)
  case atStart => exact ⟨0, _, Nat.zero_le _, rfl, HO.out, by simp [El.flat], HG.out⟩
  case round =>
    obtain ⟨k, xs, hk, rfl, hown, htake, hbel⟩ := hrel
    have HW := mkHid hown
    have HT := mkHid htake
    have HB := mkHid hbel
    clear hown htake hbel HO HG hmk
    by_cases hlt : k < l.length
    · obtain ⟨x, hx⟩ : ∃ x, l[k]? = some x := ⟨_, List.getElem?_eq_getElem hlt⟩
      obtain ⟨b, o, rfl, _, hl⟩ := (HL.out.below HB.out).cons (by omega)
      obtain ⟨c0, c1, c2⟩ := get_v hl hx
      have HX := mkHid hx
      clear hl hx
      have i0 : (0 : Int) ≤ (k : Int) := by omega
      have i1 : (k : Int) < (l.length : Int) := by omega
      go_wp2_with fail
      refine (toVal_any x.1 x.2.1 x.2.2 _).mono ?_
      rintro e w2 ⟨rfl, hb1⟩
      have HW1 := mkHid (owns_below HW.out hb1)
      have HB1 := mkHid (below_step HB.out hb1)
      have hxl := HW1.out.1
      clear hb1 HB HW c0 c1 c2
      obtain ⟨u0, y0⟩ : ∃ v, w2.cell? ⟨g, k * 3, none⟩ = some v := ⟨_, (HW1.out.cellAt (k * 3) (by omega)).trans (List.getElem?_eq_getElem (by omega))⟩
      have z0 := HW1.out.frozenAt (k * 3)
      obtain ⟨u1, y1⟩ : ∃ v, w2.cell? ⟨g, k * 3 + 1, none⟩ = some v := ⟨_, (HW1.out.cellAt (k * 3 + 1) (by omega)).trans (List.getElem?_eq_getElem (by omega))⟩
      have z1 := HW1.out.frozenAt (k * 3 + 1)
      obtain ⟨u2, y2⟩ : ∃ v, w2.cell? ⟨g, k * 3 + 2, none⟩ = some v := ⟨_, (HW1.out.cellAt (k * 3 + 2) (by omega)).trans (List.getElem?_eq_getElem (by omega))⟩
      have z2 := HW1.out.frozenAt (k * 3 + 2)
      clear hxl
      have HA0 := mkHid (HW1.out.stored (k * 3) (.int .i64 x.1))
      have HA1 := mkHid (HA0.out.1.stored (k * 3 + 1) (.int .i64 x.2.1))
      have HA2 := mkHid (HA1.out.1.stored (k * 3 + 2) (.bool x.2.2))
      go_wp2
      go_roundw
      case rel =>
        refine ⟨k + 1, _, by omega, by go_num, HA2.out.1, step_v HX.out HW1.out.1 HT.out, ?_⟩
        exact ((HB1.out.setCell (p := ⟨g, k * 3, none⟩) (Nat.le_of_eq HGG.out) _).setCell (p := ⟨g, k * 3 + 1, none⟩) (Nat.le_of_eq HGG.out) _).setCell (p := ⟨g, k * 3 + 2, none⟩) (Nat.le_of_eq HGG.out) _
      case measure => simp [intOf]; omega
    · have e : k = l.length := by omega
      subst e
      have hown := HW.out
      rw [flat_upto (E := eV) HW.out.1 HT.out] at hown
      have HW := mkHid hown
      clear hown HT
      go_wp2
      go_ret
      exact ⟨g, rfl, by rw [HGG.out]; exact HW.out, HB.out⟩
end Go.Proofs.YthfiblldccnjcaaGreatDoor
namespace Go.Proofs.YthfiblldccnjcaaGreatDoor
open Go.RowKit

theorem Tryz.info4 : (Tryz.prog.info? 4).map (fun i => (i.zero, i.size, i.bytes)) = some (some (.bool false), 1, 1) := by kernel_rfl
set_option maxRecDepth 100000 in
set_option maxHeartbeats 1600000 in
theorem toBoolS_any (l : List Bool) (a : Option Addr) (c : Nat) (w : World) (hn : l.length ≤ 1048576) (hl : At eB w a l) :
    Calls Tryz.prog 20 #[.slice a l.length c] w fun e w' => ∃ g, e = .returned (.slice (some ⟨g, 0, none⟩) l.length l.length) ∧ Own eB 4 w' w.heap.size (.slice (some ⟨g, 0, none⟩) l.length l.length) l ∧ Below w.heap.size w w' := by
  obtain ⟨i0, hi, hz⟩ := Option.map_eq_some_iff.1 Tryz.info4
  simp only [Prod.mk.injEq] at hz
  obtain ⟨hz0, hz1, hz2⟩ := hz
  obtain ⟨w1, hmk, hown0, hg0⟩ := run_make_full (P := Tryz.prog) w w.heap.size 24 4 i0 _ 1 Tryz.underlying24 hi hz0 hz1 .i64 .i64 l.length (by rw [hz2]; omega) (by unfold maxLen; omega) (Nat.le_refl _)
  obtain ⟨g, hgg⟩ : ∃ g, w.heap.size = g := ⟨_, rfl⟩
  have HGG := mkHid hgg
  rw [hgg] at hmk hown0
  have HL := mkHid hl
  have HO := mkHid hown0
  have HG := mkHid (Below.grown (Below.refl w.heap.size w) hg0 (Nat.le_refl _) (fun k hk => by cases hk))
  clear hl hown0 hg0 hi hz0 hz1 hz2 hgg
  go_enter Tryz.func20, Tryz.ntmps20
  go_wp2
  go_loopw [4] (fun i w' => ∃ (k : Nat) (xs : List Value), k ≤ l.length ∧ i = .int .i64 k ∧ w'.ownsRow g 4 1 (.slice (some ⟨g, 0, none⟩) l.length l.length) l.length xs ∧ xs.take (k * 1) = eB.flat (l.take k) ∧ Below w.heap.size w w') (fun i _ => l.length - (intOf i).toNat)
  case atStart => exact ⟨0, _, Nat.zero_le _, rfl, HO.out, by simp [El.flat], HG.out⟩
  case round =>
    obtain ⟨k, xs, hk, rfl, hown, htake, hbel⟩ := hrel
    have HW := mkHid hown
    have HT := mkHid htake
    have HB := mkHid hbel
    clear hown htake hbel HO HG hmk
    by_cases hlt : k < l.length
    · obtain ⟨x, hx⟩ : ∃ x, l[k]? = some x := ⟨_, List.getElem?_eq_getElem hlt⟩
      obtain ⟨b, o, rfl, _, hl⟩ := (HL.out.below HB.out).cons (by omega)
      have c0 := get_b hl hx
      have HX := mkHid hx
      clear hl hx
      have i0 : (0 : Int) ≤ (k : Int) := by omega
      have i1 : (k : Int) < (l.length : Int) := by omega
      have HW1 := HW
      have HB1 := HB
      have hxl := HW1.out.1
      obtain ⟨u0, y0⟩ : ∃ v, wr.cell? ⟨g, k, none⟩ = some v := ⟨_, (HW1.out.cellAt (k) (by omega)).trans (List.getElem?_eq_getElem (by omega))⟩
      have z0 := HW1.out.frozenAt (k)
      clear hxl
      have HA0 := mkHid (HW1.out.stored (k) (.bool x))
      go_wp2
      go_roundw
      case rel =>
        refine ⟨k + 1, _, by omega, by go_num, HA0.out.1, step_b HX.out HW1.out.1 HT.out, ?_⟩
        exact HB1.out.setCell (p := ⟨g, k, none⟩) (Nat.le_of_eq HGG.out) _
      case measure => simp [intOf]; omega
    · have e : k = l.length := by omega
      subst e
      have hown := HW.out
      rw [flat_upto (E := eB) HW.out.1 HT.out] at hown
      have HW := mkHid hown
      clear hown HT
      go_wp2
      go_ret
      exact ⟨g, rfl, by rw [HGG.out]; exact HW.out, HB.out⟩
end Go.Proofs.YthfiblldccnjcaaGreatDoor
