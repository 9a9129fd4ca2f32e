/-
  CONTRACT of the program's plainOf.
-/
import Derived.Test.YtpebfdplapeejaaGreatDoorMCg
import Derived.Test.YtpebfdplapeejaaGreatDoorMPd
import Derived.Test.YtpebfdplapeejaaGreatDoorMBase
namespace Go.Proofs.YtpebfdplapeejaaGreatDoor
open Go.RowKit
open Pl

theorem plain_both (t : T) : PlainOk t ∧ ∀ t' ∈ kidsOf t, PlainOk t' := by
 refine T.induct (P := fun t => PlainOk t ∧ ∀ t' ∈ kidsOf t, PlainOk t') ?_ t
 intro k s m kk IH
 exact ⟨plain_step k s m kk IH, fun t' ht => (IH t' ht).1⟩
def errOf (r : Int × ByteArray) : Value := if r.1 = 0 then .nilIface else errV r.1 r.2
def zeroA : A := .node 0 ⟨#[]⟩ 0 none 0 []
/-- What plainOf answers. -/
def PPost (t : T) (w : World) (e : Ending) (w' : World) : Prop := ∃ x : A, e = .returned (.tuple #[x.val, errOf (trb t)]) ∧ ((trb t).1 = 0 → x.erase = plnT t) ∧ ((trb t).1 ≠ 0 → x = zeroA) ∧ x.mine w' w.heap.size ∧ Below w.heap.size w w'
theorem liesL_init {w : World} {lo b : Nat} {D : List T} {t : T} : ∀ {o : Nat}, LiesL w lo (D ++ [t]) b o → LiesL w lo D b o := by
 intro o h
 refine LiesL.of fun i x hx => h.get ?_
 rw [List.getElem?_append_left (List.getElem?_eq_some_iff.1 hx).1]
 exact hx
theorem kids_init {w : World} {lo : Nat} {a : Option Addr} {D : List T} {t : T} (h : Kids w lo a (D ++ [t])) : Kids w lo a D := by
 rcases h with h | ⟨b, o, e, hl, h⟩
 ·simp at h
 ·exact .inr ⟨b, o, e, hl, liesL_init h⟩
theorem ok_formed {t : T} (h : okP t = true) : kindT t = 40 ∧ cnt t ≤ 500 ∧ formedT t = true := by
 unfold okP at h
 simp only [Bool.and_eq_true, decide_eq_true_eq] at h
 obtain ⟨h1, _, h3⟩ := fits_parts h.1.1.2
 exact ⟨h.1.1.1, h1, h3⟩
theorem many_same {D : List T} (hd : Dk D) (hf : ∀ t ∈ D, formedT t = true) : manyP D = manyD D := by
 unfold manyP manyD
 rw [mx_any (fun t ht hk => decl_num (hf t ht) hk) hd]
/-- The error's return: the result's variable is still zero. -/
theorem zero_end {w v : World} {t : T} (hb : Below w.heap.size w v) (hc : (trb t).1 ≠ 0) : PPost t w (.returned (.tuple #[zeroA.val, errV (trb t).1 (trb t).2])) v :=
 ⟨zeroA, by unfold errOf; rw [if_neg hc], fun e => absurd e hc, fun _ => rfl, leaf_mine _ _ (by decide), hb⟩

set_option maxRecDepth 100000 in
set_option maxHeartbeats 6400000 in
theorem plainOf_any (k : Int) (s : ByteArray) (m : Int) (kk : List T) (a : Option Addr) (c : Nat) (w : World) (hs : s.size ≤ maxLen) (hn : kk.length ≤ maxLen) (hcap : kk.length ≤ c) (hc9 : c ≤ maxLen) (hk : Kids w 0 a kk) (htab : Lib.TabIs Tryz.prog w "internal/strconv.uint64pow10" .u64 Lib.pow10Tab) :
  Calls Tryz.prog 20 #[.agg #[.int .i64 k, .string s, .int .i64 m, .slice a kk.length c]] w (PPost (.node k s m kk) w) := by
 obtain ⟨gg, hgn⟩ := Option.isSome_iff_exists.1 (show (Tryz.prog.globalNamed "internal/strconv.uint64pow10").isSome = true by kernel_rfl)
 have HTAB := mkHid (fun W (hW : Below w.heap.size w W) => Joins.tab_stays hgn htab hW (Nat.le_refl _))
 have HOK := mkHid (fun W (hW : Below w.heap.size w W) => iProgOk_any k s m kk a c W hs hn hcap hc9 (hk.below hW) (HTAB.out W hW))
 have B1 : Below w.heap.size w ((w.alloc (.cells #[.int .i64 k, .string s, .int .i64 m, .slice a kk.length c] 33)).alloc (.cells #[.int .i64 0, .string ⟨#[]⟩, .int .i64 0, .slice none 0 0] 33)) := ((Below.refl w.heap.size w).alloc (Nat.le_refl _) _).alloc (by simp) _
 have F0 := Four.new w k s m a kk.length c 33
 have F1 := F0.below ((Below.refl _ _).alloc (Nat.le_refl _) (.cells #[.int .i64 0, .string ⟨#[]⟩, .int .i64 0, .slice none 0 0] 33))
 have h0 := heap_alloc_new (w.alloc (.cells #[.int .i64 k, .string s, .int .i64 m, .slice a kk.length c] 33)) (.cells #[.int .i64 0, .string ⟨#[]⟩, .int .i64 0, .slice none 0 0] 33)
 have hsz : (w.alloc (.cells #[.int .i64 k, .string s, .int .i64 m, .slice a kk.length c] 33)).heap.size = w.heap.size + 1 := by simp
 rw [hsz] at h0
 obtain ⟨P, hP⟩ : ∃ q, w.heap.size = q := ⟨_, rfl⟩
 obtain ⟨w1, hw1⟩ : ∃ q, (w.alloc (.cells #[.int .i64 k, .string s, .int .i64 m, .slice a kk.length c] 33)).alloc (.cells #[.int .i64 0, .string ⟨#[]⟩, .int .i64 0, .slice none 0 0] 33) = q := ⟨_, rfl⟩
 rw [hw1] at h0 F1 B1
 rw [hP] at h0 F1
 have HB := mkHid B1
 have HFP : Hid (∀ W, Below w1.heap.size w1 W → Four W P k s m a kk.length c) := mkHid (fun W hW => F1.below hW)
 obtain ⟨p0, p1, p2, p3⟩ := F1
 have HR : Hid (∀ W, Below w1.heap.size w1 W → W.heap[P + 1]? = some (.cells #[.int .i64 0, .string ⟨#[]⟩, .int .i64 0, .slice none 0 0] 33 (0, 0))) := mkHid (fun W hW => (hW.block (P + 1) (heap_lt' h0)).trans h0)
 have HK := mkHid (hk.below B1)
 clear htab hk h0 B1
 cases hok : okP (.node k s m kk) with
 | false =>
  have HT := mkHid (show trb (.node k s m kk) = (4, ⟨#[]⟩) by unfold trb; rw [hok]; rfl)
  rw [hok] at HOK
  go_enter Tryz.func20, Tryz.ntmps20
  go_wp2_with (go_at_call 36; refine (HOK.out _ HB.out).mono ?_; rintro e w2 ⟨rfl, hb2⟩; obtain ⟨c0, c1, c2, c3, f0, f1, f2, f3⟩ := four_of (HR.out _ hb2))
  obtain ⟨q0, q1, q2, q3⟩ := put4_cells0 (HR.out _ hb2) (.int .i64 0) (.string ⟨#[]⟩) (.int .i64 0) (.slice none 0 0)
  have he := zero_end (t := .node k s m kk) (below_put4 (below_step HB.out hb2) (show w.heap.size ≤ P + 1 by omega) (.int .i64 0) (.string ⟨#[]⟩) (.int .i64 0) (.slice none 0 0)) (by rw [HT.out]; decide)
  rw [HT.out] at he
  exact bodyPost_ret (v := .tuple #[zeroA.val, errV 4 ⟨#[]⟩]) (by simp [results, Tryz.results20, go_sem, q0, q1, q2, q3, A.val, zeroA, errV]) rfl he
 | true =>
  obtain ⟨hk40, hcn, hfm⟩ := ok_formed hok
  obtain rfl : k = 40 := hk40
  obtain ⟨rfl, rfl, D, B, rfl, hD, hBk, hBf, hDf⟩ := prog_parts hfm
  have hln : D.length ≤ 498 := by
   have h1 := len_cnts (D ++ [B])
   simp only [cnt] at hcn
   rw [List.length_append, List.length_singleton] at h1
   omega
  have HT := mkHid (show trb (.node 40 ⟨#[]⟩ 0 (D ++ [B])) = trbB D B (plnT (.node 40 ⟨#[]⟩ 0 (D ++ [B]))) by unfold trb; rw [hok]; simp [kidsOf, lastT])
  rw [hok] at HOK
  obtain ⟨kb, sb, mb, kkb⟩ := B
  have hlen : (D ++ [T.node kb sb mb kkb]).length = D.length + 1 := by simp
  obtain ⟨b, o, xa, xc, rfl, hkd⟩ := kid_at HK.out (Below.refl _ _) (i := D.length) (show (D ++ [T.node kb sb mb kkb])[D.length]? = some (.node kb sb mb kkb) by simp)
  have HKD := mkHid hkd
  clear hkd
  rw [hlen] at HOK hw1 p3 HFP hcap F0 hsz
  rw [hlen]
  have HCN := mkHid (fun W (hW : Below w1.heap.size w1 W) => counts_any D (some ⟨b, o, none⟩) c W (by omega) (kids_init (HK.out.below hW)) hD)
  have hwr : IntKind.i64.wrap (((D.length + 1 : Nat) : Int) - 1) = (D.length : Int) := by rw [IntWalk.i64_in _ (by omega)]; omega
  unfold maxLen at hc9
  go_enter Tryz.func20, Tryz.ntmps20
  go_upto_region 3 with (go_at_call 36; refine (HOK.out _ HB.out).mono ?_; rintro e w2 ⟨rfl, hb2⟩)
  obtain ⟨r0, r1, r2, r3⟩ := HFP.out _ hb2
  have i0 : (0 : Int) ≤ (D.length : Int) := by omega
  have i1 : (D.length : Int) ≤ (c : Int) := by omega
  go_upto_region 5 with (go_at_call 37; refine (HCN.out _ hb2).mono ?_; rintro e w3 ⟨rfl, hb3⟩)
  have bel3 := below_step hb2 hb3
  have HBL3 := mkHid bel3
  have hms := many_same hD hDf
  cases hmn : manyP D with
  | true =>
   rw [if_pos rfl]
   have hTB : trbB D (.node kb sb mb kkb) (plnT (.node 40 ⟨#[]⟩ 0 (D ++ [.node kb sb mb kkb]))) = (3, ⟨#[]⟩) := by unfold trbB; rw [← hms, hmn]; rfl
   obtain ⟨z0, z1, z2, z3, z4, z5, z6, z7⟩ := four_of (HR.out _ bel3)
   have hq := put4_cells0 (HR.out _ bel3) (.int .i64 0) (.string ⟨#[]⟩) (.int .i64 0) (.slice none 0 0)
   have he := zero_end (t := .node 40 ⟨#[]⟩ 0 (D ++ [.node kb sb mb kkb])) (below_put4 (below_step HB.out bel3) (show w.heap.size ≤ P + 1 by omega) (.int .i64 0) (.string ⟨#[]⟩) (.int .i64 0) (.slice none 0 0)) (by rw [HT.out, hTB]; simp)
   rw [HT.out, hTB] at he
   have HQ := mkHid (And.intro hq he)
   clear hq he
   simp only [errV]
   go_wp2
   obtain ⟨⟨q0, q1, q2, q3⟩, he⟩ := HQ.out
   exact bodyPost_ret (v := .tuple #[zeroA.val, errV 3 ⟨#[]⟩]) (by simp [results, Tryz.results20, go_sem, q0, q1, q2, q3, A.val, zeroA, errV]) rfl he
  | false =>
   rw [if_neg (by decide)]
   have HMN := mkHid (show manyD D = false by rw [← hms, hmn])
   have HDL := mkHid (fun W (hW : Below w1.heap.size w1 W) => declare_any D (some ⟨b, o, none⟩) c W (by omega) (kids_init (HK.out.below hW)) hD)
   obtain ⟨r0, r1, r2, r3⟩ := HFP.out _ bel3
   clear hms hmn hb3
   cases htw : twiceD [] D with
   | some s6 =>
    have hTB : trbB D (.node kb sb mb kkb) (plnT (.node 40 ⟨#[]⟩ 0 (D ++ [.node kb sb mb kkb]))) = (6, s6) := by unfold trbB; rw [HMN.out, htw]; rfl
    go_upto_region 8 with (go_at_call 38; refine (HDL.out _ HBL3.out).mono ?_; rintro e w4 ⟨hb4, hdp⟩; rw [htw] at hdp; simp only at hdp; subst hdp; have bel4 := below_step HBL3.out hb4)
    obtain ⟨z0, z1, z2, z3, z4, z5, z6, z7⟩ := four_of (HR.out _ bel4)
    have hq := put4_cells0 (HR.out _ bel4) (.int .i64 0) (.string ⟨#[]⟩) (.int .i64 0) (.slice none 0 0)
    have he := zero_end (t := .node 40 ⟨#[]⟩ 0 (D ++ [.node kb sb mb kkb])) (below_put4 (below_step HB.out bel4) (show w.heap.size ≤ P + 1 by omega) (.int .i64 0) (.string ⟨#[]⟩) (.int .i64 0) (.slice none 0 0)) (by rw [HT.out, hTB]; simp)
    rw [HT.out, hTB] at he
    have HQ := mkHid (And.intro hq he)
    clear hq he
    simp only [errV]
    go_wp2
    obtain ⟨⟨q0, q1, q2, q3⟩, he⟩ := HQ.out
    exact bodyPost_ret (v := .tuple #[zeroA.val, errV 6 s6]) (by simp [results, Tryz.results20, go_sem, q0, q1, q2, q3, A.val, zeroA, errV]) rfl he
   | none =>
    have HTW := mkHid htw
    have hap := twice_apart (D := []) (r := D) hD trivial htw
    clear hap
    go_upto_region 11 with (go_at_call 38; refine (HDL.out _ HBL3.out).mono ?_; rintro e w4 ⟨hb4, hdp⟩; rw [htw] at hdp; simp only at hdp; obtain ⟨rfl, hmp⟩ := hdp; have HMP := mkHid hmp; have HB4 := mkHid hb4; clear hmp hb4)
    have hQ5 := heap_alloc_new w4 (.cells #[.int .i64 7, .int .i64 8] 3)
    have A5 : Below w4.heap.size w4 (w4.alloc (.cells #[.int .i64 7, .int .i64 8] 3)) := (Below.refl _ _).alloc (Nat.le_refl _) _
    have bel5 := below_step (below_step HBL3.out HB4.out) A5
    obtain ⟨M, hM⟩ : ∃ q, w3.heap.size = q := ⟨_, rfl⟩
    obtain ⟨Q, hQ⟩ : ∃ q, w4.heap.size = q := ⟨_, rfl⟩
    obtain ⟨w5, hw5⟩ : ∃ q, w4.alloc (.cells #[.int .i64 7, .int .i64 8] 3) = q := ⟨_, rfl⟩
    rw [hw5] at hQ5 A5 bel5
    rw [hQ] at hQ5
    rw [hM] at HMP
    rw [hw5, hM, hQ]
    have HA5 := mkHid A5
    have HBE5 := mkHid bel5
    have HQ5 := mkHid hQ5
    have hsb : sb.size ≤ maxLen := by have := head_size (formed_parts hBf).1; unfold maxLen; omega
    have hnb : kkb.length ≤ maxLen := by
     have h1 := len_cnts kkb
     have h2 : cnt (T.node kb sb mb kkb) ≤ cnts (D ++ [T.node kb sb mb kkb]) := cnt_in (by simp)
     simp only [cnt] at hcn h2
     unfold maxLen
     omega
    have j0 : (0 : Int) ≤ (D.length : Int) := by omega
    have j1 : (D.length : Int) < ((D.length + 1 : Nat) : Int) := by omega
    clear hw5 hM hQ A5 bel5 hQ5 r0 r1 r2 r3 HDL
    go_loopg [45] 2 (fun g s45 wr => ∃ i : Nat, i + g = 2 ∧ s45 = .int .i64 i ∧ (1 ≤ i → wrg (badP (lookD D) 7) (.node kb sb mb kkb) = none) ∧ (2 ≤ i → wrg (badP (lookD D) 8) (.node kb sb mb kkb) = none) ∧ Below w5.heap.size w5 wr)
    case atStart => exact ⟨0, rfl, rfl, fun h => by omega, fun h => by omega, Below.refl _ _⟩
    case round =>
     obtain ⟨i, hig, rfl, h7, h8, hbel⟩ := hrel
     have HBL := mkHid hbel
     have HB5W := mkHid (below_step HBE5.out hbel)
     have HB45 := mkHid (below_step HA5.out hbel)
     have hQ := (hbel.block Q (heap_lt' HQ5.out)).trans HQ5.out
     have y0 : wr.cell? ⟨Q, 0, none⟩ = some (.int .i64 7) := by rw [Lib.cell_of_heap hQ]; rfl
     have y1 : wr.cell? ⟨Q, 1, none⟩ = some (.int .i64 8) := by rw [Lib.cell_of_heap hQ]; rfl
     obtain ⟨r0, r1, r2, r3⟩ := HFP.out _ HB5W.out
     obtain ⟨c0, c1, c2, c3, c5⟩ := HKD.out _ HB5W.out
     clear hbel hQ
     have hi3 : i = 0 ∨ i = 1 ∨ i = 2 := by omega
     rcases hi3 with rfl | rfl | rfl
     ·obtain ⟨g1, rfl⟩ : ∃ q, gk = q + 1 := ⟨gk - 1, by omega⟩
      have hcl := chk_any (.node kb sb mb kkb) M D.length (lookD D) 7 xa xc wr hsb hnb c5 (HMP.out.below HB45.out)
      cases ho : wrg (badP (lookD D) 7) (.node kb sb mb kkb) with
      | none =>
       rw [ho] at hcl
       have HC := mkHid hcl
       have HO := mkHid ho
       clear hcl ho
       go_wp2_with (go_at_call 39; refine HC.out.mono ?_; rintro e w6 ⟨rfl, hb6⟩; simp only [wrV])
       go_roundg g1
       case rel => exact ⟨1, by omega, by simp, fun _ => HO.out, fun h => by omega, below_step HBL.out hb6⟩
       case measure => omega
      | some s7 =>
       rw [ho] at hcl
       have HC := mkHid hcl
       have hTB : trbB D (.node kb sb mb kkb) (plnT (.node 40 ⟨#[]⟩ 0 (D ++ [.node kb sb mb kkb]))) = (7, s7) := by unfold trbB; rw [HMN.out, HTW.out]; simp only [Bool.false_eq_true, if_false]; rw [ho]
       clear hcl ho
       go_wp2_with (go_at_call 39; refine HC.out.mono ?_; rintro e w6 ⟨rfl, hb6⟩; simp only [wrV, errV]; have bel6 := below_step HB5W.out hb6; obtain ⟨z0, z1, z2, z3, z4, z5, z6, z7⟩ := four_of (HR.out _ bel6))
       have hq := put4_cells0 (HR.out _ bel6) (.int .i64 0) (.string ⟨#[]⟩) (.int .i64 0) (.slice none 0 0)
       have he := zero_end (t := .node 40 ⟨#[]⟩ 0 (D ++ [.node kb sb mb kkb])) (below_put4 (below_step HB.out bel6) (show w.heap.size ≤ P + 1 by omega) (.int .i64 0) (.string ⟨#[]⟩) (.int .i64 0) (.slice none 0 0)) (by rw [HT.out, hTB]; simp)
       rw [HT.out, hTB] at he
       obtain ⟨q0, q1, q2, q3⟩ := hq
       exact bodyPost_ret (v := .tuple #[zeroA.val, errV 7 s7]) (by simp [results, Tryz.results20, go_sem, q0, q1, q2, q3, A.val, zeroA, errV]) rfl he
     ·have H7 := mkHid (h7 (by omega))
      clear h7 h8
      obtain ⟨g1, rfl⟩ : ∃ q, gk = q + 1 := ⟨gk - 1, by omega⟩
      have hcl := chk_any (.node kb sb mb kkb) M D.length (lookD D) 8 xa xc wr hsb hnb c5 (HMP.out.below HB45.out)
      cases ho : wrg (badP (lookD D) 8) (.node kb sb mb kkb) with
      | none =>
       rw [ho] at hcl
       have HC := mkHid hcl
       have HO := mkHid ho
       clear hcl ho
       go_wp2_with (go_at_call 39; refine HC.out.mono ?_; rintro e w6 ⟨rfl, hb6⟩; simp only [wrV])
       go_roundg g1
       case rel => exact ⟨2, by omega, by simp, fun _ => H7.out, fun _ => HO.out, below_step HBL.out hb6⟩
       case measure => omega
      | some s7 =>
       rw [ho] at hcl
       have HC := mkHid hcl
       have hTB : trbB D (.node kb sb mb kkb) (plnT (.node 40 ⟨#[]⟩ 0 (D ++ [.node kb sb mb kkb]))) = (8, s7) := by unfold trbB; rw [HMN.out, HTW.out]; simp only [Bool.false_eq_true, if_false]; rw [H7.out]; simp only; rw [ho]
       clear hcl ho
       go_wp2_with (go_at_call 39; refine HC.out.mono ?_; rintro e w6 ⟨rfl, hb6⟩; simp only [wrV, errV]; have bel6 := below_step HB5W.out hb6; obtain ⟨z0, z1, z2, z3, z4, z5, z6, z7⟩ := four_of (HR.out _ bel6))
       have hq := put4_cells0 (HR.out _ bel6) (.int .i64 0) (.string ⟨#[]⟩) (.int .i64 0) (.slice none 0 0)
       have he := zero_end (t := .node 40 ⟨#[]⟩ 0 (D ++ [.node kb sb mb kkb])) (below_put4 (below_step HB.out bel6) (show w.heap.size ≤ P + 1 by omega) (.int .i64 0) (.string ⟨#[]⟩) (.int .i64 0) (.slice none 0 0)) (by rw [HT.out, hTB]; simp)
       rw [HT.out, hTB] at he
       obtain ⟨q0, q1, q2, q3⟩ := hq
       exact bodyPost_ret (v := .tuple #[zeroA.val, errV 8 s7]) (by simp [results, Tryz.results20, go_sem, q0, q1, q2, q3, A.val, zeroA, errV]) rfl he
     ·have H7 := mkHid (h7 (by omega))
      have H8 := mkHid (h8 (by omega))
      clear h7 h8
      have HPL := mkHid (fun W (hW : Below w1.heap.size w1 W) => (plain_both (.node 40 ⟨#[]⟩ 0 (D ++ [.node kb sb mb kkb]))).1 hfm hcn (some ⟨b, o, none⟩) c W (HK.out.below hW))
      rw [hlen] at HPL
      obtain ⟨PT, hPT⟩ : ∃ q, plnT (T.node 40 ⟨#[]⟩ 0 (D ++ [.node kb sb mb kkb])) = q := ⟨_, rfl⟩
      have hw1s := HB5W.out.size
      have hP1 := heap_lt' (HR.out _ (Below.refl _ _))
      rw [hPT] at HPL HT
      have HPT := mkHid hPT
      clear c0 c1 c2 c3 c5 y0 y1 hPT
      go_upto_region 18 with (go_at_call 40; refine (HPL.out _ HB5W.out).mono ?_; rintro e w6 ⟨x, rfl, hxe, hxm, hb6⟩; obtain ⟨zk, zs, zm, za, zc, zkk⟩ := x; simp only [A.val])
      have hxt := hxm.tree
      have A7 : Below w6.heap.size w6 (w6.alloc (.cells #[.int .i64 zk, .string zs, .int .i64 zm, .slice za zkk.length zc] 33)) := (Below.refl _ _).alloc (Nat.le_refl _) _
      have hX7 := heap_alloc_new w6 (.cells #[.int .i64 zk, .string zs, .int .i64 zm, .slice za zkk.length zc] 33)
      obtain ⟨X, hX⟩ : ∃ q, w6.heap.size = q := ⟨_, rfl⟩
      obtain ⟨w7, hw7⟩ : ∃ q, w6.alloc (.cells #[.int .i64 zk, .string zs, .int .i64 zm, .slice za zkk.length zc] 33) = q := ⟨_, rfl⟩
      rw [hw7] at A7 hX7
      rw [hX] at hX7
      rw [hw7, hX]
      have m7 := hxm.below A7
      have bel7 := below_step (below_step HB5W.out hb6) A7
      have hP7 := iProgOk_any zk zs zm (erases zkk) za zc w7 hxm.2.1 (by rw [erases_len]; exact hxm.2.2) (by rw [erases_len]; exact hxt.2.2.1) hxt.2.2.2 (Sits.lies _ m7.tree.1 (fun _ _ => Nat.zero_le _)) (HTAB.out _ (below_step HB.out bel7))
      rw [erases_len, show T.node zk zs zm (erases zkk) = PT from hxe] at hP7
      have HM7 := mkHid (And.intro hxe m7)
      have HBE7 := mkHid bel7
      have HX7 := mkHid hX7
      obtain ⟨d0, d1, d2, d3, _⟩ := four_of hX7
      clear hxt A7 hX7 hw7 hX m7 bel7 hxe hxm hb6
      cases hop : okP PT with
      | false =>
       rw [hop] at hP7
       have HP7 := mkHid hP7
       have hTB : trbB D (.node kb sb mb kkb) PT = (5, ⟨#[]⟩) := by unfold trbB; rw [HMN.out, HTW.out]; simp only [Bool.false_eq_true, if_false]; rw [H7.out]; simp only; rw [H8.out]; simp only; rw [hop]; rfl
       clear hP7
       go_wp2_with (go_at_call 36; refine HP7.out.mono ?_; rintro e w8 ⟨rfl, hb8⟩; have bel8 := below_step HBE7.out hb8; obtain ⟨z0, z1, z2, z3, z4, z5, z6, z7⟩ := four_of (HR.out _ bel8))
       have hq := put4_cells0 (HR.out _ bel8) (.int .i64 0) (.string ⟨#[]⟩) (.int .i64 0) (.slice none 0 0)
       have he := zero_end (t := .node 40 ⟨#[]⟩ 0 (D ++ [.node kb sb mb kkb])) (below_put4 (below_step HB.out bel8) (show w.heap.size ≤ P + 1 by omega) (.int .i64 0) (.string ⟨#[]⟩) (.int .i64 0) (.slice none 0 0)) (by rw [HT.out, hTB]; simp)
       rw [HT.out, hTB] at he
       obtain ⟨q0, q1, q2, q3⟩ := hq
       exact bodyPost_ret (v := .tuple #[zeroA.val, errV 5 ⟨#[]⟩]) (by simp [results, Tryz.results20, go_sem, q0, q1, q2, q3, A.val, zeroA, errV]) rfl he
      | true =>
       rw [hop] at hP7
       have HP7 := mkHid hP7
       have hTB : trbB D (.node kb sb mb kkb) PT = (0, ⟨#[]⟩) := by unfold trbB; rw [HMN.out, HTW.out]; simp only [Bool.false_eq_true, if_false]; rw [H7.out]; simp only; rw [H8.out]; simp only; rw [hop]; rfl
       clear hP7
       go_wp2_with (go_at_call 36; refine HP7.out.mono ?_; rintro e w8 ⟨rfl, hb8⟩; have bel8 := below_step HBE7.out hb8; obtain ⟨z0, z1, z2, z3, z4, z5, z6, z7⟩ := four_of (HR.out _ bel8); obtain ⟨v0, v1, v2, v3, _⟩ := four_of ((hb8.block X (heap_lt' HX7.out)).trans HX7.out))
       obtain ⟨q0, q1, q2, q3⟩ := put4_cells0 (HR.out _ bel8) (.int .i64 zk) (.string zs) (.int .i64 zm) (.slice za zkk.length zc)
       refine bodyPost_ret (v := .tuple #[(A.node zk zs zm za zc zkk).val, .nilIface]) (by simp [results, Tryz.results20, go_sem, q0, q1, q2, q3, A.val]) rfl ⟨.node zk zs zm za zc zkk, ?_, fun _ => ?_, fun h => ?_, ?_, ?_⟩
       ·rw [HT.out, hTB]; rfl
       ·rw [HPT.out]; exact HM7.out.1
       ·rw [HT.out, hTB] at h; exact absurd rfl h
       ·have hb0 := HB.out.size
        exact ((HM7.out.2.below hb8).put4 (by omega) _ _ _ _).mono (by omega)
       ·exact below_put4 (below_step HB.out bel8) (by omega) _ _ _ _
end Go.Proofs.YtpebfdplapeejaaGreatDoor
