/-
  CONTRACT of the program's link.copy.
-/
import Derived.Test.YtodjmpocpfkpaaaGreatKc29
import Derived.Test.YtodjmpocpfkpaaaGreatKc30
namespace Go.Proofs.YtodjmpocpfkpaaaGreat
open Go.RowKit

def cpK (n v u c : Int) : Int → List Lk → List Lk
  | _, [] => []
  | ro, k :: r => ⟨setY (k.b ++ (addC n v u c ro k.b).1), k.v, k.m⟩ :: cpK n v u c (addC n v u c ro k.b).2 r
theorem cpK_b (n v u c : Int) : ∀ (ro : Int) (ks : List Lk), (cpK n v u c ro ks).map Lk.b = cpB n v u c ro (ks.map Lk.b) ∧ (cpK n v u c ro ks).map Lk.v = ks.map Lk.v ∧ (cpK n v u c ro ks).map Lk.m = ks.map Lk.m
  | _, [] => ⟨rfl, rfl, rfl⟩
  | ro, k :: r => by
    have h := cpK_b n v u c (addC n v u c ro k.b).2 r
    simp only [cpK, cpB, List.map_cons, h.1, h.2.1, h.2.2]
    exact ⟨trivial, trivial, trivial⟩
theorem cpK_snoc (n v u c : Int) (k : Lk) : ∀ (ro : Int) (d : List Lk), cpK n v u c ro (d ++ [k]) = cpK n v u c ro d ++ [⟨setY (k.b ++ (addC n v u c (leftC n v u c ro (d.map Lk.b)) k.b).1), k.v, k.m⟩]
  | _, [] => rfl
  | ro, j :: d => by simp [cpK, leftC, cpK_snoc n v u c k _ d]
theorem cpK_len (n v u c : Int) (ro : Int) (ks : List Lk) : (cpK n v u c ro ks).length = ks.length := by
  have := congrArg List.length (cpK_b n v u c ro ks).2.1
  simpa using this
def cpS (n v u c : Int) (S : SG) : SG := ⟨cpB n v u c (40 - (tot S.B : Int)) S.B, S.V, S.M⟩
theorem cpK_seg (n v u c : Int) {ks : List Lk} {Z : SG} (h : segL ks = Z) : segL (cpK n v u c (40 - (tot (ks.map Lk.b) : Int)) ks) = cpS n v u c Z := by
  subst h
  have h := cpK_b n v u c (40 - (tot (ks.map Lk.b) : Int)) ks
  simp only [segL, cpS, List.map_dropLast, h.1, h.2.1, h.2.2]
def nxt : List (Nat × Lk) → Option Addr
  | [] => none
  | x :: _ => some ⟨x.1, 0, none⟩
theorem Ch.nxt {w : World} {base : Nat} {R : List (Nat × Lk)} {p : Option Addr} (h : Ch w base R p none) : p = Go.Proofs.YtodjmpocpfkpaaaGreat.nxt R := by
  cases R with
  | nil => exact h
  | cons x R => exact h.1
structure CpI (w wr : World) (base Q X : Nat) (n v u c : Int) (P R : List (Nat × Lk)) : Prop where
  ch : Ch wr base (P ++ R) (some ⟨X, 0, none⟩) none
  nd : ((P ++ R).map Prod.fst).Nodup
  bel : Below base w wr
  q : wr.heap[Q]? = some (.cells #[.int .i64 n, .int .i64 v, .int .i64 u, .int .i64 c] 51 (0, 0))
  sz : base ≤ wr.heap.size
theorem tidyR_sub : ∀ (B : List (List Y)) (V : List VV) (M : List Bool) (v : VV) (mb : Bool), tot (tidyR v mb B V M).1 ≤ tot B ∧ ∀ b, b ∈ (tidyR v mb B V M).1 → b ∈ B
  | [], _, _, _, _ => by simp [tidyR, tot]
  | _ :: _, [], _, _, _ => by simp [tidyR, tot]
  | _ :: _, _ :: _, [], _, _ => by simp [tidyR, tot]
  | b :: B, x :: V, m :: M, v, mb => by
    unfold tidyR
    split
    · have h := tidyR_sub B V M (jv v x) (mb && m)
      simp only [tot]
      exact ⟨by omega, fun y hy => List.mem_cons_of_mem _ (h.2 y hy)⟩
    · have h := tidyR_sub B V M noneV true
      simp only [tot]
      refine ⟨by omega, fun y hy => ?_⟩
      rcases List.mem_cons.1 hy with e | e
      · rw [e]; exact List.mem_cons_self
      · exact List.mem_cons_of_mem _ (h.2 y e)
/-- What is dropped is no more than what was. -/
theorem dropSG_sub (l : Int) (T : List Y) (S : SG) : tot (dropSG l T S).B ≤ tot S.B ∧ ∀ b, b ∈ (dropSG l T S).B → ∀ p, p ∈ b → ∃ b', b' ∈ S.B ∧ p ∈ b' := by
  obtain ⟨B, V, M⟩ := S
  cases B with
  | nil => simp [dropSG, noS, tot]
  | cons b B =>
    have h1 := tidyR_sub (B.map (outD l T)) V M noneV true
    have h2 : ∀ B : List (List Y), tot (B.map (outD l T)) ≤ tot B := fun B => by
      induction B with
      | nil => exact Nat.le_refl _
      | cons b B ih => have := outD_len l T b; simp only [List.map_cons, tot]; omega
    have h3 := outD_len l T b
    refine ⟨?_, fun z hz p hp => ?_⟩
    · show tot (outD l T b :: (tidyR noneV true (B.map (outD l T)) V M).1) ≤ tot (b :: B)
      have := h2 B
      simp only [tot]
      omega
    · have hz : z ∈ outD l T b :: (tidyR noneV true (B.map (outD l T)) V M).1 := hz
      rcases List.mem_cons.1 hz with e | e
      · subst e; exact ⟨b, List.mem_cons_self, (List.mem_filter.1 hp).1⟩
      · obtain ⟨b', hb', e2⟩ := List.mem_map.1 (h1.2 z e)
        subst e2
        exact ⟨b', List.mem_cons_of_mem _ hb', (List.mem_filter.1 hp).1⟩
theorem two_bnds {w : World} {g : Nat} {l m : List Y} {a b : Option Addr} {ca cb : Nat} (h0 : w.cell? ⟨g, 0, none⟩ = some (.slice a l.length ca)) (h1 : w.cell? ⟨g, 1, none⟩ = some (.slice b m.length cb)) (ha : At eY w a l) (hb : At eY w b m) : BndsAt w (some ⟨g, 0, none⟩) [l, m] :=
  .inr ⟨g, 0, rfl, fun i x hx => by
    match i, hx with
    | 0, hx => simp at hx; subst hx; exact ⟨a, ca, h0, ha⟩
    | 1, hx => simp at hx; subst hx; exact ⟨b, cb, h1, hb⟩⟩
set_option maxRecDepth 100000 in
set_option maxHeartbeats 6400000 in
theorem copy_any (n lv v u c : Int) (S : SG) (X base : Nat) (w : World) (hs : Small S) (hok : OkS n lv S.B S.V S.M) (hm : MvP n lv v u c) (hB : base ≤ w.heap.size) (hc : ChN w base X (linksOf S.B S.V S.M)) :
    Calls Tryz.prog 48 #[.pointer (some ⟨X, 0, none⟩), .agg #[.int .i64 n, .int .i64 v, .int .i64 u, .int .i64 c]] w fun e w' => e = .returned (.tuple #[]) ∧ Below base w w' ∧ ∃ ks, Chain w' X ks ∧ FitK ks ∧ segL ks = cpS n v u c (dropSG lv (tv v S.B) S) := by
  obtain ⟨ti, hti, hz⟩ := Option.map_eq_some_iff.1 infoY
  simp only [Prod.mk.injEq] at hz
  obtain ⟨hz0, hz1, hz2⟩ := hz
  have HI := mkHid (show Tryz.prog.info? 65 = some ti ∧ ti.zero = some (.agg #[.int .i64 0, .int .i64 0]) ∧ ti.size = 2 ∧ ti.bytes = 16 from ⟨hti, hz0, hz1, hz2⟩)
  clear hti hz0 hz1 hz2
  obtain ⟨w0, hw0⟩ : ∃ z : World, w.alloc (.cells #[.int .i64 n, .int .i64 v, .int .i64 u, .int .i64 c] 51) = z := ⟨_, rfl⟩
  obtain ⟨Q, hQ⟩ : ∃ z, w.heap.size = z := ⟨_, rfl⟩
  have B0 : Below w.heap.size w w0 := by rw [← hw0]; exact bl_alloc (Below.refl _ _) _
  have hQ0 : w0.heap[Q]? = some (.cells #[.int .i64 n, .int .i64 v, .int .i64 u, .int .i64 c] 51 (0, 0)) := by rw [← hw0, ← hQ]; exact heap_new _ _ rfl
  have HQ0 := mkHid hQ0
  obtain ⟨q0, q1, q2, q3⟩ : w0.cell? ⟨Q, 0, none⟩ = some (.int .i64 n) ∧ w0.cell? ⟨Q, 1, none⟩ = some (.int .i64 v) ∧ w0.cell? ⟨Q, 2, none⟩ = some (.int .i64 u) ∧ w0.cell? ⟨Q, 3, none⟩ = some (.int .i64 c) := ⟨heap_cell hQ0 0, heap_cell hQ0 1, heap_cell hQ0 2, heap_cell hQ0 3⟩
  have HB0 := mkHid B0
  have HC0 := mkHid (hc.below B0)
  have HSM := mkHid hs
  have HOK := mkHid hok
  have HMP := mkHid hm
  have HBB := mkHid hB
  clear hs hok hm hB hc B0 hQ0
  go_enter Tryz.func48, Tryz.ntmps48
  go_wp2_with fail
  clear hw0 hQ q0 q1 q2 q3
  refine (forget_any n lv v u c S X base _ HSM.out HOK.out HMP.out.pv.1 HMP.out.pl (Nat.le_trans HBB.out HB0.out.size) HC0.out).mono ?_
  rintro e w1 ⟨rfl, hbk, ks, hcn, hfit, hseg⟩
  have HB1 : Hid (Below base w w1) := mkHid ((HB0.out.mono HBB.out).trans hbk.bel)
  have HQ1 : Hid (w1.heap[Q]? = some (.cells #[.int .i64 n, .int .i64 v, .int .i64 u, .int .i64 c] 51 (0, 0))) := mkHid (hbk.kt Q _ HQ0.out (fun cur e => by cases e))
  have HZ1 : Hid (base ≤ w1.heap.size) := mkHid (Nat.le_trans (Nat.le_trans HBB.out HB0.out.size) hbk.bel.size)
  have HCN := mkHid hcn
  have HFT := mkHid hfit
  have HSE := mkHid hseg
  have HDB : Hid (ks.map Lk.b = (dropSG lv (tv v S.B) S).B) := mkHid (by rw [← hseg]; rfl)
  have HTO : Hid (tot (ks.map Lk.b) ≤ 40) := mkHid (by rw [HDB.out]; have h1 := (dropSG_sub lv (tv v S.B) S).1; have h2 := HOK.out.tot; have h3 := tot_flatten S.B; omega)
  have HSY : Hid (∀ k, k ∈ ks → ∀ p, p ∈ k.b → -1000 ≤ p.2 ∧ p.2 ≤ 1000) := mkHid fun k hk p hp => by
    have h1 : k.b ∈ (dropSG lv (tv v S.B) S).B := by rw [← HDB.out]; exact List.mem_map_of_mem hk
    obtain ⟨b', h2, h3⟩ := (dropSG_sub lv (tv v S.B) S).2 _ h1 p hp
    exact ((HOK.out.rows b' h2).sym p h3).2.2
  clear hbk hcn hfit hseg HB0 HQ0 HC0 HBB
  go_wp2_with fail
  refine (count_any ks X _ (by have := HTO.out; omega) (HCN.out.chain HFT.out.ne)).mono ?_
  obtain ⟨tt, htt⟩ : ∃ z, tot (ks.map Lk.b) = z := ⟨_, rfl⟩
  rw [htt]
  have HTT := mkHid htt
  have htl : tt ≤ 40 := by rw [← htt]; exact HTO.out
  clear htt
  rintro e w2 ⟨rfl, rfl⟩
  obtain ⟨ro, hro⟩ : ∃ z : Int, 40 - (tt : Int) = z := ⟨_, rfl⟩
  have hwr : IntKind.i64.wrap (40 - (tt : Int)) = ro := by rw [IntWalk.i64_in _ (by omega)]; exact hro
  have HRO := mkHid hro
  have hrb : 0 ≤ ro ∧ ro ≤ 40 := by omega
  go_wp2
  clear hwr
  obtain ⟨L, hL, hL2, hL3, _⟩ := HCN.out
  have HI0 : Hid (CpI w w1 base Q X n v u c [] L) := mkHid ⟨hL, hL3, HB1.out, HQ1.out, HZ1.out⟩
  have HLS := mkHid hL2
  have hn0 : (Value.pointer (some ⟨X, 0, none⟩)) = .pointer (nxt L) := by rw [← hL.nxt]
  have HN0 := mkHid hn0
  clear hL hL2 hL3 HB1 HQ1 HZ1 HCN hn0
  go_loopg [4, 5] ks.length (fun g s4 s5 wr => ∃ (P R : List (Nat × Lk)) (d r : List Lk), d ++ r = ks ∧ r.length ≤ g ∧ s5 = .pointer (nxt R) ∧ s4 = .int .i64 (leftC n v u c ro (d.map Lk.b)) ∧ P.map Prod.snd = cpK n v u c ro d ∧ R.map Prod.snd = r ∧ CpI w wr base Q X n v u c P R)
  case atStart => exact ⟨[], L, [], ks, rfl, Nat.le_refl _, HN0.out, rfl, rfl, HLS.out, HI0.out⟩
  case round =>
    clear HI0 HLS HN0
    obtain ⟨P, R, d, r, hdr, hg, rfl, rfl, hP, hR, hI⟩ := hrel
    obtain ⟨r0, hr0⟩ : ∃ z, leftC n v u c ro (d.map Lk.b) = z := ⟨_, rfl⟩
    have hrd := leftC_le n v u c ro (d.map Lk.b)
    have HDR := mkHid hdr
    have HTD : Hid (tot (d.map Lk.b) ≤ 40) := mkHid (by have h := HTO.out; rw [← hdr, List.map_append, tot_append] at h; omega)
    rw [hr0] at hrd ⊢
    have hrr : -40 ≤ r0 ∧ r0 ≤ 40 := by have := HTD.out; omega
    have HR0 := mkHid hr0
    have HP := mkHid hP
    have HII := mkHid hI
    clear hr0 hP hdr hrd
    cases R with
    | nil =>
      subst hR
      have HD : Hid (d = ks) := mkHid (by have := HDR.out; simpa using this)
      have HF : Hid (Chain wr X (cpK n v u c ro ks) ∧ FitK (cpK n v u c ro ks) ∧ segL (cpK n v u c ro ks) = cpS n v u c (dropSG lv (tv v S.B) S)) := mkHid (by
        have hch := HII.out.ch
        rw [List.append_nil] at hch
        have hp := HP.out
        rw [HD.out] at hp
        have hne : cpK n v u c ro ks ≠ [] := fun e => HFT.out.ne (by have := cpK_len n v u c ro ks; rw [e] at this; exact List.length_eq_zero_iff.1 this.symm)
        refine ⟨by rw [← hp]; exact Ch.chain (fun e => hne (by rw [← hp, e]; rfl)) hch, ⟨hne, by rw [cpK_len]; exact HFT.out.len, fun k hk => ?_⟩, ?_⟩
        · have h1 : k.b ∈ cpB n v u c ro (ks.map Lk.b) := by rw [← (cpK_b n v u c ro ks).1]; exact List.mem_map_of_mem hk
          obtain ⟨i, hi, e⟩ := List.getElem_of_mem h1
          have h2 := tot_get (List.getElem?_eq_getElem hi)
          have h3 := (cpB_len n v u c ro (ks.map Lk.b)).2
          have h4 := HTO.out
          rw [e] at h2
          omega
        · rw [← HRO.out, ← HTT.out]; exact cpK_seg n v u c HSE.out)
      clear hI
      have hnx : nxt [] = none := rfl
      rw [hnx]
      clear hnx
      go_wp2
      refine bodyPost_end (results_none rfl _ _ _) rfl ⟨rfl, HII.out.bel, _, HF.out⟩
    | cons y R =>
      obtain ⟨Xa, ka⟩ := y
      have hR2 : ka :: R.map Prod.snd = r := hR
      subst hR2
      obtain ⟨hP1, pp, hA, hRR⟩ := hI.ch.cut
      have hpp := hRR.nxt
      have HP1 := mkHid hP1
      have HRR := mkHid hRR
      have HLO := mkHid hA.lo
      obtain ⟨ao, cap, hXa, hrow⟩ := hA.mem
      obtain ⟨l, hl⟩ : ∃ z, ka.b = z := ⟨_, rfl⟩
      have HL := mkHid hl
      rw [hl] at hXa hrow
      have HXA := mkHid hXa
      have HRW := mkHid hrow
      have HLL : Hid (l.length ≤ 40) := mkHid (by have h := HTO.out; rw [← HDR.out] at h; simp only [List.map_append, List.map_cons, tot_append, tot, hl] at h; omega)
      have hll := HLL.out
      have HSX : Hid (∀ p, p ∈ l → -1000 ≤ p.2 ∧ p.2 ≤ 1000) := mkHid (by rw [← hl]; exact HSY.out ka (by rw [← HDR.out]; simp))
      have HCX : Hid (∀ z, Below wr.heap.size wr z → z.heap[Xa]? = some (.cells (lkC (.slice ao l.length cap) ka.v ka.m pp) 109 (0, 0)) ∧ z.heap[Q]? = some (.cells #[.int .i64 n, .int .i64 v, .int .i64 u, .int .i64 c] 51 (0, 0))) := mkHid fun z hz => ⟨(hz.block Xa (heap_lt hXa)).trans hXa, (hz.block Q (heap_lt hI.q)).trans hI.q⟩
      have e0 := heap_cell hXa 0
      simp only [lkC] at e0
      simp at e0
      clear hI hP1 hRR hA hXa hrow hl hR
      have hnx : nxt ((Xa, ka) :: R) = some ⟨Xa, 0, none⟩ := rfl
      rw [hnx]
      clear hnx
      go_wp2
      clear e0
      obtain ⟨wo, hwo⟩ : ∃ x, x = wr := ⟨_, rfl⟩
      subst hwo
      go_loopg [4, 6, 30] l.length (fun g s4 s6 s30 z => ∃ (j : Nat) (a : Option Addr) (cc : Nat), j ≤ l.length ∧ s30 = .int .i64 j ∧ l.length - j ≤ g ∧ s4 = .int .i64 (addC n v u c r0 (l.take j)).2 ∧ s6 = .slice a (addC n v u c r0 (l.take j)).1.length cc ∧ Own eY 65 z wo.heap.size (.slice a (addC n v u c r0 (l.take j)).1.length cc) (addC n v u c r0 (l.take j)).1 ∧ Below wo.heap.size wo z)
      case atStart => exact ⟨0, none, 0, Nat.zero_le _, rfl, by omega, rfl, rfl, Own.nil _ _ _ _, Below.refl _ _⟩
      case round =>
        obtain ⟨j, a, cc, hj, rfl, hgj, rfl, rfl, hown, hbel⟩ := hrel
        obtain ⟨M, hM⟩ : ∃ z, (addC n v u c r0 (l.take j)).1 = z := ⟨_, rfl⟩
        obtain ⟨r1, hr1⟩ : ∃ z, (addC n v u c r0 (l.take j)).2 = z := ⟨_, rfl⟩
        have hlen := addC_len n v u c r0 (l.take j)
        rw [hM, hr1] at hlen
        rw [hM] at hown ⊢
        rw [hr1]
        have hlt0 : (l.take j).length ≤ 40 := by rw [List.length_take]; omega
        have hr1b : -80 ≤ r1 ∧ r1 ≤ 40 := by omega
        obtain ⟨mm, hmm⟩ : ∃ z, M.length = z := ⟨_, rfl⟩
        have hmb : mm ≤ 40 := by omega
        rw [hmm] at hown ⊢
        have HM := mkHid hM
        have HR1 := mkHid hr1
        have HMM := mkHid hmm
        have HOW := mkHid hown
        have HBE := mkHid hbel
        clear hM hr1 hlen hown hmm hlt0
        by_cases hlt : j < l.length
        · obtain ⟨x, hx⟩ : ∃ x, l[j]? = some x := ⟨_, List.getElem?_eq_getElem hlt⟩
          obtain ⟨b, off, hab, _, hq⟩ := (HRW.out.at.below hbel).cons (by omega)
          subst hab
          obtain ⟨c0, c1⟩ := get_y hq hx
          have HX := mkHid hx
          have hxb := HSX.out x (List.mem_of_getElem? hx)
          have HXB := mkHid hxb
          have i0 : (0 : Int) ≤ (j : Int) := by omega
          have i1 : (j : Int) < (l.length : Int) := by omega
          clear hq hx hbel hxb
          obtain ⟨w5, hw5⟩ : ∃ z : World, wr.alloc (.cells #[.int .i64 x.1, .int .i64 x.2] 65) = z := ⟨_, rfl⟩
          obtain ⟨Z, hZ⟩ : ∃ z, wr.heap.size = z := ⟨_, rfl⟩
          have HB5 : Hid (Below wr.heap.size wr w5) := mkHid (by rw [← hw5]; exact bl_alloc (Below.refl _ _) _)
          have d0 : w5.cell? ⟨Z, 0, none⟩ = some (.int .i64 x.1) := by rw [← hw5, ← hZ]; simp [go_sem]
          have d1 : w5.cell? ⟨Z, 1, none⟩ = some (.int .i64 x.2) := by rw [← hw5, ← hZ]; simp [go_sem]
          have HD0 := mkHid d0
          have hZl : Z < w5.heap.size := World.block_lt_of_cell? w5 _ d0
          have HQ5 := mkHid (HCX.out _ (below_step HBE.out HB5.out)).2
          have q0 := heap_cell HQ5.out 0
          have q1 := heap_cell HQ5.out 1
          have q2 := heap_cell HQ5.out 2
          have q3 := heap_cell HQ5.out 3
          simp at q0 q1 q2 q3
          go_wp2_with fail
          clear hw5 hZ c0 c1 d0 d1 q0 q1 q2 q3
          refine (renamed_any n v u c x _ HXB.out HMP.out.pc).mono ?_
          obtain ⟨z, hz⟩ : ∃ z, x.2 - c = z := ⟨_, rfl⟩
          rw [hz]
          have HZZ := mkHid hz
          clear hz
          rintro e w6 ⟨rfl, hb⟩
          have BE6 := mkHid (below_step (below_step HBE.out HB5.out) hb)
          have O6 := mkHid ((HOW.out.below HB5.out).below hb)
          have HD6 := mkHid (((bcell hb).1 _ _ hZl).trans HD0.out)
          have HQ6 := mkHid (HCX.out _ (below_step (below_step HBE.out HB5.out) hb)).2
          have hZ6 : Z < w6.heap.size := Nat.lt_of_lt_of_le hZl hb.size
          clear hb HB5 HOW HBE HD0 HQ5 hZl
          obtain ⟨w7, hw7⟩ : ∃ y : World, w6.alloc (.cells #[.int .i64 v, .int .i64 z] 65) = y := ⟨_, rfl⟩
          obtain ⟨Z2, hZ2⟩ : ∃ y, w6.heap.size = y := ⟨_, rfl⟩
          have HB7 : Hid (Below w6.heap.size w6 w7) := mkHid (by rw [← hw7]; exact bl_alloc (Below.refl _ _) _)
          have d0 := ((bcell HB7.out).1 _ _ hZ6).trans HD6.out
          have q2 := (World.cell?_of_block (a := ⟨Q, 2, none⟩) (HB7.out.block Q (heap_lt HQ6.out))).trans (heap_cell HQ6.out 2)
          simp at q2
          have f0 : w7.cell? ⟨Z2, 0, none⟩ = some (.int .i64 v) := by rw [← hw7, ← hZ2]; simp [go_sem]
          have f1 : w7.cell? ⟨Z2, 1, none⟩ = some (.int .i64 z) := by rw [← hw7, ← hZ2]; simp [go_sem]
          have BE7 := mkHid (below_step BE6.out HB7.out)
          have O7 := mkHid (O6.out.below HB7.out)
          have hsz7 := BE7.out.size
          clear BE6 O6 HD6 HQ6 HB7 hZ6
          by_cases h1 : x.1 = u
          · have hb1 : (x.1 == u) = true := beq_iff_eq.2 h1
            cases h2 : symOkB n v z
            · have HE : Hid (addC n v u c r0 (l.take (j + 1)) = addC n v u c r0 (l.take j)) := mkHid (by rw [addC_next HX.out, if_neg]; unfold adds; rw [HZZ.out, h2]; simp)
              clear h1
              go_wp2
              clear d0 q2 f0 f1 hw7 hZ2
              go_roundg (l.length - (j + 1))
              case measure => omega
              case rel => exact ⟨j + 1, a, cc, by omega, by go_num, Nat.le_refl _, by rw [HE.out, HR1.out], by rw [HE.out, HM.out, HMM.out], by rw [HE.out, HM.out, HMM.out]; exact O7.out, BE7.out⟩
            · by_cases h3 : 0 < r1
              · have HE : Hid (addC n v u c r0 (l.take (j + 1)) = (M ++ [(v, z)], r1 - 1)) := mkHid (by rw [addC_next HX.out, if_pos (by unfold adds; rw [HZZ.out, h2, hb1, HR1.out]; simp [h3]), HM.out, HR1.out, HZZ.out])
                have hwr : IntKind.i64.wrap (r1 - 1) = r1 - 1 := IntWalk.i64_in _ (by omega)
                have HO4 : Hid (w7.ownsRow wo.heap.size 65 2 (.slice a mm cc) mm (eY.flat M)) := mkHid (by have h := O7.out; unfold Own at h; rw [HMM.out] at h; exact h)
                clear h1
                go_wp2_with (at_builtin; refine wpList_append_lies _ rfl _ _ 63 rfl wo.heap.size 65 ti (.agg #[.int .i64 0, .int .i64 0]) 2 16 Tryz.underlying63 HI.out.1 HI.out.2.1 HI.out.2.2.1 HI.out.2.2.2 rfl (by decide) _ _ _ rfl (World.ownsRow.alloc HO4.out _) ⟨w7.heap.size, 0, none⟩ 1 1 [.int .i64 v, .int .i64 z] rfl rfl ?c1 ?c2 (by decide) ?c3 ?c4 ?c5 (w7.heap.size + 1) (by simp) ?_)
                case c1 => exact two_new _ _ _ _
                case c2 => first | rfl | (intro u hu; simp at hu; rcases hu with rfl | rfl <;> rfl) | exact ⟨rfl, rfl⟩
                case c3 => unfold maxLen; omega
                case c4 => omega
                case c5 => first | omega | (simp; omega)
                intro g' c' w8 hown' hgrow hat' _
                have HK1 : Hid ((M ++ [(v, z)]).length = mm + 1) := mkHid (by rw [List.length_append, HMM.out]; rfl)
                have O8 : Hid (Own eY 65 w8 wo.heap.size (.slice (some ⟨g', 0, none⟩) (mm + 1) c') (M ++ [(v, z)])) := mkHid (by
                  unfold Own
                  rw [HK1.out, El.flat_app]
                  exact hown')
                have BE8 : Hid (Below wo.heap.size wo w8) := mkHid ((BE7.out.alloc BE7.out.size _).grown hgrow (by simp; omega) (fun q hq => by have := (World.ownsRow.lt HO4.out q hq).1; omega))
                clear hown' hgrow hat' d0 q2 f0 f1 hw7 hZ2
                go_wp2
                go_roundg (l.length - (j + 1))
                case measure => omega
                case rel => exact ⟨j + 1, some ⟨g', 0, none⟩, c', by omega, by go_num, Nat.le_refl _, by rw [HE.out], by rw [HE.out]; simp only; rw [HK1.out], by rw [HE.out]; simp only; rw [HK1.out]; exact O8.out, BE8.out⟩
              · have HE : Hid (addC n v u c r0 (l.take (j + 1)) = addC n v u c r0 (l.take j)) := mkHid (by rw [addC_next HX.out, if_neg]; unfold adds; rw [HR1.out]; simp [h3])
                clear h1
                go_wp2
                clear d0 q2 f0 f1 hw7 hZ2
                go_roundg (l.length - (j + 1))
                case measure => omega
                case rel => exact ⟨j + 1, a, cc, by omega, by go_num, Nat.le_refl _, by rw [HE.out, HR1.out], by rw [HE.out, HM.out, HMM.out], by rw [HE.out, HM.out, HMM.out]; exact O7.out, BE7.out⟩
          · have hb1 : (x.1 == u) = false := beq_eq_false_iff_ne.2 h1
            have HE : Hid (addC n v u c r0 (l.take (j + 1)) = addC n v u c r0 (l.take j)) := mkHid (by rw [addC_next HX.out, if_neg]; unfold adds; rw [hb1]; simp)
            clear h1
            go_wp2
            clear d0 q2 f0 f1 hw7 hZ2
            go_roundg (l.length - (j + 1))
            case measure => omega
            case rel => exact ⟨j + 1, a, cc, by omega, by go_num, Nat.le_refl _, by rw [HE.out, HR1.out], by rw [HE.out, HM.out, HMM.out], by rw [HE.out, HM.out, HMM.out]; exact O7.out, BE7.out⟩
        · have i1 : ¬ (j : Int) < (l.length : Int) := by omega
          have el : l.take j = l := List.take_of_length_le (by omega)
          have HMF : Hid ((addC n v u c r0 l).1 = M ∧ (addC n v u c r0 l).2 = r1) := mkHid ⟨by rw [← HM.out, el], by rw [← HR1.out, el]⟩
          have HXR := mkHid (HCX.out _ hbel).1
          have e0 := heap_cell HXR.out 0
          simp only [lkC] at e0
          simp at e0
          obtain ⟨w5, hw5⟩ : ∃ z : World, wr.alloc (.cells #[.slice ao l.length cap, .slice a mm cc] 63) = z := ⟨_, rfl⟩
          obtain ⟨Z, hZ⟩ : ∃ z, wr.heap.size = z := ⟨_, rfl⟩
          have HB5 : Hid (Below wr.heap.size wr w5) := mkHid (by rw [← hw5]; exact bl_alloc (Below.refl _ _) _)
          have HBN : Hid (BndsAt w5 (some ⟨Z, 0, none⟩) [l, M]) := mkHid (two_bnds (ca := cap) (cb := cc) (by rw [← hw5, ← hZ]; simp [go_sem]) (by rw [← hw5, ← hZ, HMM.out]; simp [go_sem]) ((HRW.out.below (below_step hbel HB5.out)).at) ((HOW.out.below HB5.out).at))
          clear el hbel HCX
          go_wp2_with fail
          clear hw5 hZ e0
          refine (termsOf_any [l, M] (some ⟨Z, 0, none⟩) 2 _ (by simp) (by simp [HMM.out]; omega) HBN.out).mono ?_
          rintro e w8 ⟨hb, m, a1, p1, rfl, hset, hown⟩
          have hm1 : m = setY (l ++ M) := IsSet.unique (by simpa using hset) (setY_set _)
          have HM1 := mkHid hm1
          have HB8 := mkHid (below_step (below_step HBE.out HB5.out) hb)
          have HX8 : Hid (w8.heap[Xa]? = some (.cells (lkC (.slice ao l.length cap) ka.v ka.m pp) 109 (0, 0))) := mkHid (((below_step HB5.out hb).block Xa (heap_lt HXR.out)).trans HXR.out)
          have HOM := mkHid hown
          have HFI : Hid (CpI w ((w8.setCell ⟨Xa, 0, none⟩ (.slice a1 m.length p1)).setCell ⟨Xa, 1, none⟩ (.func (.func 91) #[] #[])) base Q X n v u c (P ++ [(Xa, ⟨m, ka.v, ka.m⟩)]) R) := mkHid (by
            have hO : Only Xa w8 ((w8.setCell ⟨Xa, 0, none⟩ (.slice a1 m.length p1)).setCell ⟨Xa, 1, none⟩ (.func (.func 91) #[] #[])) := (Only.set w8 Xa 0 _).trans (Only.set _ Xa 1 _)
            have hT : ∃ cur, w8.heap[Xa]? = some (.cells cur 109 (0, 0)) := ⟨_, HX8.out⟩
            have hH : ((w8.setCell ⟨Xa, 0, none⟩ (.slice a1 m.length p1)).setCell ⟨Xa, 1, none⟩ (.func (.func 91) #[] #[])).heap[Xa]? = some (.cells (lkC (.slice a1 m.length p1) ka.v ka.m pp) 109 (0, 0)) := by
              rw [heap_set_self (heap_set_self HX8.out 0 _) 1 _]
              simp [lkC]
            have hq8 := (HB8.out.block Q (heap_lt HII.out.q)).trans HII.out.q
            have hz8 : base ≤ w8.heap.size := Nat.le_trans HII.out.sz HB8.out.size
            have hw58 : wo.heap.size ≤ w5.heap.size := Nat.le_trans HBE.out.size HB5.out.size
            have hk : LinkO ((w8.setCell ⟨Xa, 0, none⟩ (.slice a1 m.length p1)).setCell ⟨Xa, 1, none⟩ (.func (.func 91) #[] #[])) base Xa ⟨m, ka.v, ka.m⟩ pp := ⟨⟨a1, p1, hH, own_only (HOM.out.mono (Nat.le_trans HII.out.sz hw58)) hT hO⟩, HLO.out⟩
            obtain ⟨n1, n2⟩ := nd_parts HII.out.nd
            refine ⟨?_, ?_, Only.below (HII.out.bel.trans (HB8.out.mono HII.out.sz)) hO hz8 HLO.out, ?_, Nat.le_trans hz8 hO.size⟩
            · have h := Ch.upd hO hT (HP1.out.below HB8.out) hk (HRR.out.below HB8.out) n1 n2
              simpa using h
            · have h := nd_same (k' := (⟨m, ka.v, ka.m⟩ : Lk)) HII.out.nd
              simpa using h
            · exact (hO.block Q (heap_lt hq8) (fun e => by cases e; rw [HX8.out] at hq8; simp at hq8)).trans hq8)
          have HDE : Hid (leftC n v u c ro ((d ++ [ka]).map Lk.b) = r1 ∧ cpK n v u c ro (d ++ [ka]) = cpK n v u c ro d ++ [⟨m, ka.v, ka.m⟩]) := mkHid ⟨by
            rw [List.map_append, leftC_app, HR0.out]
            show (addC n v u c r0 ka.b).2 = r1
            rw [HL.out]; exact HMF.out.2, by
            rw [cpK_snoc, HR0.out, HL.out, HMF.out.1, ← HM1.out]⟩
          obtain ⟨e0, e1, _, _, _, _, e6, f0, f1, _, _, _, _, _⟩ := cel_of HX8.out
          clear hb hset hown hm1 HB5 HBE HOW HXR HX8 HOM HB8
          rw [hpp] at e6
          go_wp2
          clear e0 e1 e6 f0 f1
          go_roundg R.length
          case measure => simp at hg; omega
          case rel => exact ⟨P ++ [(Xa, ⟨m, ka.v, ka.m⟩)], R, d ++ [ka], R.map Prod.snd, by rw [← HDR.out]; simp, by simp, rfl, by rw [HDE.out.1], by rw [HDE.out.2, List.map_append, HP.out]; rfl, rfl, HFI.out⟩
end Go.Proofs.YtodjmpocpfkpaaaGreat
