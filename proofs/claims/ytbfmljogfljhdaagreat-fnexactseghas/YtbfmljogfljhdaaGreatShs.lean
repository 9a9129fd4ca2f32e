/-
  CONTRACT of the spec's SegHas.
-/
import Derived.Test.YtbfmljogfljhdaaGreatIs
import Derived.Test.YtbfmljogfljhdaaGreatVh
import Derived.Test.YtbfmljogfljhdaaGreatSos
namespace Go.Proofs.YtbfmljogfljhdaaGreat
open Go.RowKit

theorem one_new' (w : World) (a : Value) (T : TypeId) (j : Nat) (u : Value) (h : [a][j]? = some u) : (w.alloc (.cells #[a] T)).cell? ((⟨w.heap.size, 0, none⟩ : Addr).add j) = some u := by
  rw [WideShapes.add_plain, Nat.zero_add, World.cell?_alloc_new]
  simpa using h
theorem info3' : (Tryz.prog.info? 3).map (fun i => (i.zero, i.size, i.bytes)) = some (some (.int .i64 0), 1, 8) := by kernel_rfl
theorem own_fresh {w' : World} {g base : Nat} (hb : base ≤ g) (hg : w'.heap[g]? = some (.cells #[] 3 (0, 0))) : Own eI 3 w' base (.slice (some ⟨g, 0, none⟩) 0 0) [] :=
  ⟨rfl, .inr ⟨g, 0, #[], rfl, hb, hg, Nat.le_refl _, by unfold maxLen; omega, rfl, rfl⟩⟩
/-- What a read of a term and of its number wants. -/
structure TermAt (l : List Int) (wr : World) (vb vo yb yo q : Nat) (p : Y) (t : Nat) (x : Int) : Prop where
  t1 : p.1 = (t : Int)
  t2 : t < l.length
  c0 : wr.cell? ⟨yb, yo + q * 2, none⟩ = some (.int .i64 t)
  c1 : wr.cell? ⟨yb, yo + q * 2 + 1, none⟩ = some (.int .i64 p.2)
  c2 : wr.cell? ⟨vb, vo + t, none⟩ = some (.int .i64 x)
  x1 : -1000000 ≤ x
  x2 : x ≤ 1000000
  p1 : -1000 ≤ p.2
  p2 : p.2 ≤ 1000
  v : x + p.2 = valY l p
theorem term_at {n lv : Int} {S : SG} {A : SAd} {l : List Int} {wr : World} {bb ob vb vo : Nat} (hok : OkS n lv S.B S.V S.M) (hn : (l.length : Int) = n) (hv : VP l) (hs : SegAt wr A S) (ha : A.a0 = some ⟨bb, ob, none⟩) (hl : At eI wr (some ⟨vb, vo, none⟩) l) {k : Nat} {b : List Y} (hb : S.B[k]? = some b) :
    0 < b.length ∧ ∃ yb yo cap, wr.cell? ⟨bb, ob + k, none⟩ = some (.slice (some ⟨yb, yo, none⟩) b.length cap) ∧ ∀ q p, b[q]? = some p → ∃ t x, TermAt l wr vb vo yb yo q p t x := by
  have hr := hok.rows b (List.mem_of_getElem? hb)
  have hpos : 0 < b.length := List.length_pos_iff.2 hr.ne
  obtain ⟨hk, _⟩ := List.getElem?_eq_some_iff.1 hb
  obtain ⟨b1, o1, e1, _, hq⟩ := hs.b.cons (by omega)
  rw [ha] at e1
  cases e1
  obtain ⟨ao, cap, hc, hat⟩ := hq k b hb
  obtain ⟨yb, yo, rfl, _, hy⟩ := hat.cons hpos
  refine ⟨hpos, yb, yo, cap, hc, fun q p hp => ?_⟩
  obtain ⟨⟨_, _⟩, ⟨s1, s2⟩, s3, s4⟩ := hr.sym p (List.mem_of_getElem? hp)
  have hin : InS l.length p := ⟨by omega, by omega, by omega, by omega⟩
  obtain ⟨x, hx, hv1, hx1, hx2⟩ := hv.bound hin
  obtain ⟨c0, c1⟩ := get_y hy hp
  obtain ⟨vb', vo', e2, _, hz⟩ := hl.cons (by have := hv.n1; omega)
  cases e2
  obtain ⟨t, ht⟩ : ∃ t : Nat, p.1 = (t : Int) := ⟨p.1.toNat, by omega⟩
  rw [ht] at c0 hx
  simp only [Int.toNat_natCast] at hx
  exact ⟨t, x, ht, by omega, c0, c1, get_i hz hx, hx1, hx2, s3, s4, hv1.symm⟩
set_option maxRecDepth 100000 in
set_option maxHeartbeats 6400000 in
theorem sSegHas_any (n lv : Int) (S : SG) (A : SAd) (l : List Int) (a : Option Addr) (c : Nat) (cs : List CC) (ac : Option Addr) (cc : Nat) (w : World) (hs : Small S) (hn : l.length ≤ 1048576) (hcn : cs.length ≤ 1048576) (hl : SegAt w A S) (hv : At eI w a l) (hc : At eC w ac cs) :
    Calls Tryz.prog 9 #[.int .i64 n, .int .i64 lv, .agg #[.slice A.a0 S.B.length A.c0, .slice A.a1 S.V.length A.c1, .slice A.a2 S.M.length A.c2], .slice a l.length c, .slice ac cs.length cc] w fun e w' => Tells w w' e (HasP n lv S l cs) := by
  have HSM := mkHid hs
  obtain ⟨w0, hw0⟩ : ∃ x : World, w.alloc (.cells #[.slice A.a0 S.B.length A.c0, .slice A.a1 S.V.length A.c1, .slice A.a2 S.M.length A.c2] 28) = x := ⟨_, rfl⟩
  obtain ⟨X, hX⟩ : ∃ x, w.heap.size = x := ⟨_, rfl⟩
  have HB : Hid (Below w.heap.size w w0) := mkHid (by rw [← hw0]; exact bl_alloc (Below.refl _ _) _)
  have P0 : Hid (G3 w0 X (.slice A.a0 S.B.length A.c0) (.slice A.a1 S.V.length A.c1) (.slice A.a2 S.M.length A.c2)) := mkHid (by rw [← hw0, ← hX]; exact G3.new _ _ _ _ _)
  have HL := mkHid (hl.below HB.out)
  have HV := mkHid (hv.below HB.out)
  have HC := mkHid (hc.below HB.out)
  have HN := mkHid hn
  have HCN := mkHid hcn
  clear hl hv hc hs hn hcn
  obtain ⟨q0, q1, q2, _, _, _⟩ := P0.out
  go_enter Tryz.func9, Tryz.ntmps9
  go_wp2_with fail
  clear hw0 hX q0 q1 q2
  refine (sSegOk_any n lv S A _ HSM.out HL.out).mono ?_
  rintro e w1 ⟨hb, r, rfl, hr⟩
  have HR := mkHid hr
  have HB1 := mkHid (below_step HB.out hb)
  have P1 := mkHid (P0.out.below hb)
  have L1 := mkHid (HL.out.below hb)
  have V1 := mkHid (HV.out.below hb)
  have C1 := mkHid (HC.out.below hb)
  clear hb hr P0 HL HB HV HC
  cases hrb : r
  · have HNO : Hid (¬ HasP n lv S l cs) := mkHid fun h => by have := HR.out.2 h.ok; rw [hrb] at this; cases this
    subst hrb
    go_wp2
    go_ret
    exact Tells.no HB1.out HNO.out
  have HOK := mkHid (HR.out.1 hrb)
  subst hrb
  clear HR
  go_wp2_with fail
  refine (sVals_any n l a c _ HN.out V1.out).mono ?_
  rintro e w2 ⟨hb, r, rfl, hr⟩
  have HR := mkHid hr
  have HB2 := mkHid (below_step HB1.out hb)
  have P2 := mkHid (P1.out.below hb)
  have L2 := mkHid (L1.out.below hb)
  have V2 := mkHid (V1.out.below hb)
  have C2 := mkHid (C1.out.below hb)
  clear hb hr P1 L1 HB1 V1 C1
  cases hrb : r
  · have HNO : Hid (¬ HasP n lv S l cs) := mkHid fun h => by have := HR.out.2 ⟨h.size, h.vp.n1, h.vp.zero, h.vp.each⟩; rw [hrb] at this; cases this
    subst hrb
    go_wp2
    go_ret
    exact Tells.no HB2.out HNO.out
  have HSV := mkHid (HR.out.1 hrb)
  subst hrb
  clear HR
  have HSZ := mkHid HSV.out.len
  have HVP : Hid (VP l) := mkHid ⟨HSV.out.n1, by have h1 := HOK.out.len; have h2 := HSV.out.len; unfold lenP at h1; omega, HSV.out.zero, HSV.out.each⟩
  clear HSV
  obtain ⟨j, hj⟩ : ∃ j : Nat, lv = (j : Int) := ⟨lv.toNat, by have := HOK.out.len; unfold lenP at this; omega⟩
  have hjl : j < l.length := by have h1 := HOK.out.len; have h2 := HSZ.out; unfold lenP at h1; omega
  obtain ⟨x, hx⟩ : ∃ x, l[j]? = some x := ⟨_, List.getElem?_eq_getElem hjl⟩
  have HX : Hid (l.getD lv.toNat 0 = x) := mkHid (by rw [hj]; simp [hx])
  obtain ⟨vb, vo, ha, _, hq⟩ := V2.out.cons (by omega)
  have c0 := get_i hq hx
  subst ha
  have i0 : (0 : Int) ≤ lv := by omega
  have i1 : lv < (l.length : Int) := by omega
  subst hj
  clear hq hx hjl
  by_cases hcl : (cs.length : Int) ≠ x
  · have hc2 : ((cs.length : Int) != x) = true := by simp; exact hcl
    have HNO : Hid (¬ HasP n (j : Int) S l cs) := mkHid fun h => hcl (h.len.trans HX.out)
    clear hcl
    go_wp2
    go_ret
    exact Tells.no HB2.out HNO.out
  replace hcl := Decidable.not_not.1 hcl
  have hc2 : ((cs.length : Int) != x) = false := by simp; exact hcl
  have HCL : Hid ((cs.length : Int) = l.getD (j : Int).toNat 0) := mkHid (hcl.trans HX.out.symm)
  clear hcl HX
  obtain ⟨bb, ob, hab, _, _⟩ := L2.out.b.cons HOK.out.k1
  have HAB := mkHid hab
  have HT : Hid (∀ wr, Below w2.heap.size w2 wr → ∀ {k : Nat} {b : List Y}, S.B[k]? = some b → 0 < b.length ∧ ∃ yb yo cap, wr.cell? ⟨bb, ob + k, none⟩ = some (.slice (some ⟨yb, yo, none⟩) b.length cap) ∧ ∀ q p, b[q]? = some p → ∃ t x, TermAt l wr vb vo yb yo q p t x) :=
    mkHid fun wr hb k b hk => term_at HOK.out HSZ.out HVP.out (L2.out.below hb) HAB.out (V2.out.below hb) hk
  have HG : Hid (∀ wr, Below w2.heap.size w2 wr → G3 wr X (.slice (some ⟨bb, ob, none⟩) S.B.length A.c0) (.slice A.a1 S.V.length A.c1) (.slice A.a2 S.M.length A.c2)) := mkHid fun wr hb => by rw [← HAB.out]; exact P2.out.below hb
  obtain ⟨q0, q1, q2, _, _, _⟩ := P2.out
  rw [hab] at q0
  clear hab
  obtain ⟨NB, hNB⟩ : ∃ NB, S.B.map (numB l) = NB := ⟨_, rfl⟩
  have HNB := mkHid hNB
  have hNL : NB.length = S.B.length := by rw [← hNB]; simp
  have HNL := mkHid hNL
  obtain ⟨ti, hi, hz⟩ := Option.map_eq_some_iff.1 info3'
  simp only [Prod.mk.injEq] at hz
  obtain ⟨hz0, hz1, hz2⟩ := hz
  have HI := mkHid (show Tryz.prog.info? 3 = some ti ∧ ti.zero = some (.int .i64 0) ∧ ti.size = 1 ∧ ti.bytes = 8 from ⟨hi, hz0, hz1, hz2⟩)
  have hk2 : S.B.length ≤ 16 := HOK.out.k2
  clear hi hz0 hz1 hz2 hNB hNL
  go_wp2
  clear q0 q1 q2 c0
  go_loopg [11, 12, 13, 14] S.B.length (fun g s11 s12 s13 s14 wr => ∃ (k : Nat) (ao : Option Addr) (cap : Nat), k ≤ S.B.length ∧ s12 = .int .i64 k ∧ s11 = .slice ao k cap ∧ S.B.length - k ≤ g ∧ Own eI 3 wr w2.heap.size (.slice ao k cap) (NB.take k) ∧ (∀ q b, q < k → S.B[q]? = some b → OneP l b) ∧ Below w2.heap.size w2 wr)
  case atStart =>
    refine ⟨0, _, 0, Nat.zero_le _, rfl, rfl, by omega, ?_, fun q b h => by omega, bl_alloc (Below.refl _ _) _⟩
    exact own_fresh (Nat.le_refl _) (by have := heap_alloc_new w2 (.cells #[] 3); simpa using this)
  case round =>
    obtain ⟨k, ao, cap, hk, rfl, rfl, hgk, hown, hone, hbel⟩ := hrel
    have HO := mkHid hown
    have HON := mkHid hone
    have HBE := mkHid hbel
    clear hown hone
    obtain ⟨q0, q1, q2, _, _, _⟩ := HG.out _ hbel
    by_cases hlt : k < S.B.length
    · obtain ⟨b, hbk⟩ : ∃ x, S.B[k]? = some x := ⟨_, List.getElem?_eq_getElem hlt⟩
      obtain ⟨hpos, yb, yo, yc, cr, htm⟩ := HT.out _ hbel hbk
      obtain ⟨p, hp⟩ : ∃ p, b[0]? = some p := ⟨_, List.getElem?_eq_getElem hpos⟩
      obtain ⟨t, x, T0⟩ := htm 0 p hp
      have HNM : Hid (numB l b = valY l p) := mkHid (by unfold numB; cases hb : b with | nil => rw [hb] at hp; simp at hp | cons y r => (rw [hb] at hp; simp at hp; subst hp; rfl))
      have c0 := T0.c0
      have c1 := T0.c1
      have c2 := T0.c2
      simp only [Nat.zero_mul, Nat.add_zero] at c0 c1
      obtain ⟨z, hz⟩ : ∃ z, x + p.2 = z := ⟨_, rfl⟩
      have HZ : Hid (numB l b = z) := mkHid (by rw [HNM.out, ← T0.v, hz])
      have hw : IntKind.i64.wrap (x + p.2) = z := by rw [IntWalk.i64_in _ (by have := T0.x1; have := T0.x2; have := T0.p1; have := T0.p2; omega)]; exact hz
      have hbl : b.length ≤ 1048576 := HSM.out.row k b hbk
      have HBK := mkHid hbk
      have HTM := mkHid htm
      have i0 : (0 : Int) ≤ (k : Int) := by omega
      have i1 : (k : Int) < (S.B.length : Int) := by omega
      have i2 : (0 : Int) < (b.length : Int) := by omega
      have i3 : (0 : Int) ≤ (t : Int) := by omega
      have i4 : (t : Int) < (l.length : Int) := by have := T0.t2; omega
      clear hbk htm hp hz T0 HNM
      go_wp2
      go_quiet (fail)
      clear q0 q1 q2 c0 c1 c2 cr hw i3 i4
      obtain ⟨wq, hwq⟩ : ∃ x, wr.drewN nq = x := ⟨_, rfl⟩
      have BQ : Below wr.heap.size wr wq := by rw [← hwq]; exact ⟨rfl, rfl, rfl, Nat.le_refl _, fun _ _ => rfl⟩
      have HBE2 := mkHid (below_step HBE.out BQ)
      have HO2 := mkHid (HO.out.below BQ)
      have hsq : w2.heap.size ≤ wq.heap.size := HBE2.out.size
      obtain ⟨q0, q1, q2, _, _, _⟩ := HG.out _ HBE2.out
      rw [hwq]
      clear hwq BQ hbel HBE HO
      go_wp2
      clear q0 q1 q2
      go_loopg [14] b.length (fun g s14 wr => ∃ (jj : Nat), jj ≤ b.length ∧ s14 = .int .i64 jj ∧ b.length - jj ≤ g ∧ (∀ q p, q < jj → b[q]? = some p → valY l p = z) ∧ Below wq.heap.size wq wr)
      case atStart => exact ⟨0, Nat.zero_le _, rfl, by omega, fun q p h => by omega, Below.refl _ _⟩
      case round =>
        clear HTM
        obtain ⟨jj, hjj, rfl, hgj, hsy, hbq⟩ := hrel
        have HS := mkHid hsy
        have HBQ := mkHid hbq
        have HBW := mkHid (below_step HBE2.out hbq)
        clear hsy hbq
        obtain ⟨q0, q1, q2, _, _, _⟩ := HG.out _ HBW.out
        obtain ⟨_, yb, yo, yc, cr, htm⟩ := HT.out _ HBW.out HBK.out
        by_cases hlt2 : jj < b.length
        · obtain ⟨p, hp⟩ : ∃ p, b[jj]? = some p := ⟨_, List.getElem?_eq_getElem hlt2⟩
          obtain ⟨t, x, T0⟩ := htm jj p hp
          have c0 := T0.c0
          have c1 := T0.c1
          have c2 := T0.c2
          obtain ⟨y, hy⟩ : ∃ y, x + p.2 = y := ⟨_, rfl⟩
          have HY : Hid (valY l p = y) := mkHid (by rw [← T0.v, hy])
          have hw : IntKind.i64.wrap (x + p.2) = y := by rw [IntWalk.i64_in _ (by have := T0.x1; have := T0.x2; have := T0.p1; have := T0.p2; omega)]; exact hy
          have HP := mkHid hp
          have j0 : (0 : Int) ≤ (jj : Int) := by omega
          have j1 : (jj : Int) < (b.length : Int) := by omega
          have j3 : (0 : Int) ≤ (t : Int) := by omega
          have j4 : (t : Int) < (l.length : Int) := by have := T0.t2; omega
          clear htm hp hy T0
          by_cases hyz : y ≠ z
          · have hyz2 : (y != z) = true := by simp; exact hyz
            have HNO : Hid (¬ HasP n (j : Int) S l cs) := mkHid fun h => hyz (by rw [← HY.out, ← HZ.out]; exact ((has_spec h).one b (List.mem_of_getElem? HBK.out)).each p (List.mem_of_getElem? HP.out))
            clear hyz
            go_wp2
            go_quiet (fail)
            clear q0 q1 q2 c0 c1 c2 cr hw
            obtain ⟨wx, hwx⟩ : ∃ x, wr.drewN nq = x := ⟨_, rfl⟩
            have BQ : Below wr.heap.size wr wx := by rw [← hwx]; exact ⟨rfl, rfl, rfl, Nat.le_refl _, fun _ _ => rfl⟩
            have HBX := mkHid (below_step HB2.out (below_step HBW.out BQ))
            rw [hwx]
            clear hwx BQ
            go_wp2
            go_ret
            exact Tells.no HBX.out HNO.out
          · replace hyz := Decidable.not_not.1 hyz
            have hyz2 : (y != z) = false := by simp; exact hyz
            have HNX : Hid (∀ q p, q < jj + 1 → b[q]? = some p → valY l p = z) := mkHid fun q y' hq hy => (by omega : q < jj ∨ q = jj).elim (fun h => HS.out q y' h hy) (fun h => by subst h; rw [HP.out] at hy; cases hy; exact HY.out.trans hyz)
            clear hyz
            go_wp2
            go_quiet (fail)
            clear q0 q1 q2 c0 c1 c2 cr hw
            obtain ⟨wx, hwx⟩ : ∃ x, wr.drewN nq = x := ⟨_, rfl⟩
            have BQ : Below wr.heap.size wr wx := by rw [← hwx]; exact ⟨rfl, rfl, rfl, Nat.le_refl _, fun _ _ => rfl⟩
            have HBX := mkHid (below_step HBQ.out BQ)
            rw [hwx]
            clear hwx BQ
            go_wp2
            go_roundg (b.length - (jj + 1))
            case measure => omega
            case rel => exact ⟨jj + 1, by omega, by go_num, Nat.le_refl _, HNX.out, HBX.out⟩
        · have HOB : Hid (OneP l b) := mkHid ⟨fun p hp => by obtain ⟨q, hq, rfl⟩ := List.getElem_of_mem hp; rw [HZ.out]; exact HS.out q _ (by omega) (List.getElem?_eq_getElem hq)⟩
          have HO3 := mkHid (HO2.out.below HBQ.out)
          have j1 : ¬ (jj : Int) < (b.length : Int) := by omega
          have hszr : w2.heap.size ≤ wr.heap.size := HBW.out.size
          clear htm HS HBQ
          have hlk : (NB.take k).length = k := by rw [List.length_take]; have := HNL.out; omega
          have HLK := mkHid hlk
          clear hlk
          have HO4 : Hid (wr.ownsRow w2.heap.size 3 1 (.slice ao k cap) k (eI.flat (NB.take k))) := mkHid (by have h := HO3.out; unfold Own at h; rw [HLK.out] at h; exact h)
          go_wp2_with (at_builtin; refine wpList_append_lies _ rfl _ _ 29 rfl w2.heap.size 3 ti (.int .i64 0) 1 8 Tryz.underlying29 HI.out.1 HI.out.2.1 HI.out.2.2.1 HI.out.2.2.2 rfl (by decide) _ _ _ rfl (World.ownsRow.alloc HO4.out _) ⟨wr.heap.size, 0, none⟩ 1 1 [.int .i64 z] rfl rfl ?c1 ?c2 (by decide) ?c3 ?c4 ?c5 (wr.heap.size + 1) (by simp) ?_)
          case c2 => first | rfl | (intro u hu; simp at hu; rcases hu with rfl; rfl)
          case c3 => unfold maxLen; omega
          case c4 => omega
          case c5 => first | omega | (simp; omega)
          intro g' cap' w3 hown' hgrow hat' _
          have HO5 : Hid (Own eI 3 w3 w2.heap.size (.slice (some ⟨g', 0, none⟩) (k + 1) cap') (NB.take (k + 1))) := mkHid (by
            have hz : NB[k]? = some z := by rw [← HNB.out, List.getElem?_map, HBK.out]; simp [HZ.out]
            have hkl : k < NB.length := by rw [HNL.out]; exact hlt
            have e1 : NB.take (k + 1) = NB.take k ++ [z] := by rw [List.take_succ_eq_append_getElem hkl]; rw [List.getElem?_eq_getElem hkl] at hz; rw [Option.some.inj hz]
            unfold Own
            rw [e1, El.flat_app, List.length_append, HLK.out]
            exact hown')
          have HB4 : Hid (Below w2.heap.size w2 w3) := mkHid ((HBW.out.alloc HBW.out.size _).grown hgrow (by simp; have := HBW.out.size; omega) (fun q hq => by have := (World.ownsRow.lt HO4.out q hq).1; omega))
          have HON2 : Hid (∀ q b, q < k + 1 → S.B[q]? = some b → OneP l b) := mkHid fun q b' hq hb => (by omega : q < k ∨ q = k).elim (fun h => HON.out q b' h hb) (fun h => by subst h; rw [HBK.out] at hb; cases hb; exact HOB.out)
          clear hown' hgrow hat' q0 q1 q2 cr
          go_wp2
          go_roundg (S.B.length - (k + 1))
          case measure => omega
          case rel => exact ⟨k + 1, some ⟨g', 0, none⟩, cap', by omega, by go_num, by trivial, Nat.le_refl _, HO5.out, HON2.out, HB4.out⟩
    · have ek : k = S.B.length := by omega
      have HONE : Hid (∀ b, b ∈ S.B → OneP l b) := mkHid fun b hb => by obtain ⟨q, hq, rfl⟩ := List.getElem_of_mem hb; exact HON.out q _ (by omega) (List.getElem?_eq_getElem hq)
      have HAT : Hid (At eI wr ao NB) := mkHid (by have h := HO.out.at; rw [ek, ← HNL.out, List.take_length] at h; exact h)
      have hkl : (k : Int) = S.B.length := by omega
      have HBZ := mkHid (below_step HB2.out HBE.out)
      have HNG : Hid (∀ (i : Nat) b, S.B[i]? = some b → NB[i]? = some (numB l b)) := mkHid fun i b hb => by rw [← HNB.out, List.getElem?_map, hb]; rfl
      have i1 : ¬ (k : Int) < (S.B.length : Int) := by omega
      have HVL := mkHid HOK.out.v
      have HML := mkHid HOK.out.m
      have HK1 := mkHid HOK.out.k1
      have HEK := mkHid ek
      obtain ⟨wz, hwz⟩ : ∃ x, wr = x := ⟨_, rfl⟩
      obtain ⟨gb, go, rfl, _, _⟩ := HAT.out.cons (by rw [HNL.out]; exact HOK.out.k1)
      subst hwz
      have hvl : S.V.length ≤ 15 := by have := HVL.out; omega
      have HGZ : Hid (∀ w', Below wr.heap.size wr w' → G3 w' X (.slice (some ⟨bb, ob, none⟩) S.B.length A.c0) (.slice A.a1 S.V.length A.c1) (.slice A.a2 S.M.length A.c2)) := mkHid fun w' h => HG.out w' (below_step hbel h)
      have HSZA : Hid (SegAt wr A S) := mkHid (L2.out.below hbel)
      have HCZ : Hid (At eC wr ac cs) := mkHid (C2.out.below hbel)
      clear hbel ek hlt HO HON HT HG HBE
      go_wp2
      clear q0 q1 q2
      have hkv : k ≤ S.V.length + 1 := by have := HVL.out; have := HEK.out; omega
      have hkv2 : S.V.length + 1 ≤ k := by have := HVL.out; have := HEK.out; omega
      obtain ⟨wz, hwz⟩ : ∃ x : World, x = wr := ⟨_, rfl⟩
      rw [← hwz] at HAT HBZ HGZ HSZA HCZ
      go_loopg [15] S.V.length (fun g s15 wr => ∃ (i : Nat), i ≤ S.V.length ∧ s15 = .int .i64 i ∧ S.V.length - i ≤ g ∧ (∀ (q : Nat) b b' m, q < i → S.B[q]? = some b → S.B[q + 1]? = some b' → S.M[q]? = some m → numB l b ≤ numB l b' ∧ (numB l b = numB l b' → m = true)) ∧ Below wz.heap.size wz wr)
      case atStart => exact ⟨0, Nat.zero_le _, rfl, by omega, fun q b b' m h => by omega, by rw [hwz]; exact Below.refl _ _⟩
      case round =>
        clear hwz
        obtain ⟨i, hi, rfl, hgi, hsy, hbq⟩ := hrel
        have HS := mkHid hsy
        have HBQ := mkHid hbq
        obtain ⟨q0, q1, q2, _, _, _⟩ := HGZ.out _ hbq
        by_cases hlt : i < S.V.length
        · obtain ⟨b, hb⟩ : ∃ b, S.B[i]? = some b := ⟨_, List.getElem?_eq_getElem (by have := HVL.out; omega)⟩
          obtain ⟨b', hb'⟩ : ∃ b, S.B[i + 1]? = some b := ⟨_, List.getElem?_eq_getElem (by have := HVL.out; omega)⟩
          obtain ⟨m, hm⟩ : ∃ b, S.M[i]? = some b := ⟨_, List.getElem?_eq_getElem (by have := HVL.out; have := HML.out; omega)⟩
          obtain ⟨x, hx⟩ : ∃ x, numB l b = x := ⟨_, rfl⟩
          obtain ⟨y, hy⟩ : ∃ x, numB l b' = x := ⟨_, rfl⟩
          obtain ⟨_, _, e, _, hn⟩ := (HAT.out.below hbq).cons (by rw [HNL.out]; exact HK1.out)
          cases e
          have c0 := get_i hn (HNG.out i b hb)
          have c1 := get_i hn (HNG.out (i + 1) b' hb')
          rw [hx] at c0
          rw [hy] at c1
          obtain ⟨mb, mo, hma, _, hmq⟩ := (HSZA.out.below hbq).m.cons (by have := HVL.out; have := HML.out; omega)
          have c2 := get_b hmq hm
          rw [hma] at q2
          have HBI : Hid (S.B[i]? = some b ∧ S.B[i + 1]? = some b' ∧ S.M[i]? = some m ∧ numB l b = x ∧ numB l b' = y) := mkHid ⟨hb, hb', hm, hx, hy⟩
          have j0 : (0 : Int) ≤ (i : Int) := by omega
          have j1 : (i : Int) < (S.V.length : Int) := by omega
          have j2 : (i : Int) < (k : Int) := by omega
          have j3 : ((i + 1 : Nat) : Int) < (k : Int) := by omega
          have j4 : (0 : Int) ≤ ((i + 1 : Nat) : Int) := by omega
          have j5 : (i : Int) < (S.M.length : Int) := by have := HVL.out; have := HML.out; omega
          have hwi : IntKind.i64.wrap ((i : Int) + 1) = ((i + 1 : Nat) : Int) := by rw [IntWalk.i64_in _ (by omega)]; omega
          have HNOT : Hid (¬ (x ≤ y ∧ (x = y → m = true)) → ¬ HasP n (j : Int) S l cs) := mkHid fun hno h => hno (by have := (has_spec h).le.le i b b' m hb hb' hm; rw [hx, hy] at this; exact this)
          have HYES : Hid ((x ≤ y ∧ (x = y → m = true)) → ∀ (q : Nat) b b' m, q < i + 1 → S.B[q]? = some b → S.B[q + 1]? = some b' → S.M[q]? = some m → numB l b ≤ numB l b' ∧ (numB l b = numB l b' → m = true)) := mkHid fun hyes q c c' m' hq h1 h2 h3 => (by omega : q < i ∨ q = i).elim (fun h => HS.out q c c' m' h h1 h2 h3) (fun h => by subst h; rw [hb] at h1; rw [hb'] at h2; rw [hm] at h3; cases h1; cases h2; cases h3; rw [hx, hy]; exact hyes)
          clear hsy hbq hb hb' hm hx hy hn hmq hma
          by_cases hgt : y < x
          · have hgt2 : decide (y < x) = true := decide_eq_true hgt
            have HNO := mkHid (HNOT.out (by omega))
            go_wp2
            go_quiet (fail)
            clear q0 q1 q2 c0 c1 c2
            obtain ⟨wx, hwx⟩ : ∃ x, wr.drewN nq = x := ⟨_, rfl⟩
            have BQ : Below wr.heap.size wr wx := by rw [← hwx]; exact ⟨rfl, rfl, rfl, Nat.le_refl _, fun _ _ => rfl⟩
            have HBX := mkHid (below_step HBQ.out BQ)
            rw [hwx]
            clear hwx BQ
            go_wp2
            go_ret
            exact Tells.no (below_step HBZ.out HBX.out) HNO.out
          have hgt2 : decide (y < x) = false := decide_eq_false hgt
          by_cases hxy : x = y
          · have hxy2 : (x == y) = true := by simp; exact hxy
            cases m
            · have HNO := mkHid (HNOT.out (by simp; omega))
              go_wp2
              go_quiet (fail)
              clear q0 q1 q2 c0 c1 c2
              obtain ⟨wx, hwx⟩ : ∃ x, wr.drewN nq = x := ⟨_, rfl⟩
              have BQ : Below wr.heap.size wr wx := by rw [← hwx]; exact ⟨rfl, rfl, rfl, Nat.le_refl _, fun _ _ => rfl⟩
              have HBX := mkHid (below_step HBQ.out BQ)
              rw [hwx]
              clear hwx BQ
              go_wp2
              go_ret
              exact Tells.no (below_step HBZ.out HBX.out) HNO.out
            · have HNX := mkHid (HYES.out ⟨by omega, fun _ => rfl⟩)
              go_wp2
              go_quiet (fail)
              clear q0 q1 q2 c0 c1 c2
              obtain ⟨wx, hwx⟩ : ∃ x, wr.drewN nq = x := ⟨_, rfl⟩
              have BQ : Below wr.heap.size wr wx := by rw [← hwx]; exact ⟨rfl, rfl, rfl, Nat.le_refl _, fun _ _ => rfl⟩
              have HBX := mkHid (below_step HBQ.out BQ)
              rw [hwx]
              clear hwx BQ
              go_wp2
              go_roundg (S.V.length - (i + 1))
              case measure => omega
              case rel => exact ⟨i + 1, by omega, by go_num, Nat.le_refl _, HNX.out, HBX.out⟩
          · have hxy2 : (x == y) = false := by simp; exact hxy
            have HNX := mkHid (HYES.out ⟨by omega, fun e => absurd e hxy⟩)
            go_wp2
            go_quiet (fail)
            clear q0 q1 q2 c0 c1 c2
            obtain ⟨wx, hwx⟩ : ∃ x, wr.drewN nq = x := ⟨_, rfl⟩
            have BQ : Below wr.heap.size wr wx := by rw [← hwx]; exact ⟨rfl, rfl, rfl, Nat.le_refl _, fun _ _ => rfl⟩
            have HBX := mkHid (below_step HBQ.out BQ)
            rw [hwx]
            clear hwx BQ
            go_wp2
            go_roundg (S.V.length - (i + 1))
            case measure => omega
            case rel => exact ⟨i + 1, by omega, by go_num, Nat.le_refl _, HNX.out, HBX.out⟩
        · have HLE : Hid (LeP l S.B S.M) := mkHid ⟨fun q b b' m h1 h2 h3 => HS.out q b b' m (by obtain ⟨h4, _⟩ := List.getElem?_eq_some_iff.1 h3; have := HVL.out; have := HML.out; omega) h1 h2 h3⟩
          have HRG : Hid (∀ (i : Nat) b, S.B[i]? = some b → 0 ≤ numB l b ∧ numB l b ≤ cs.length) := mkHid fun i b hb => HLE.out.range HML.out (ok_first HOK.out HVP.out HONE.out) ((ok_last HOK.out HONE.out).trans HCL.out.symm) hb
          have j1 : ¬ (i : Int) < (S.V.length : Int) := by omega
          have HAT1 := mkHid (HAT.out.below hbq)
          have HBZ1 := mkHid (below_step HBZ.out hbq)
          have HSZ1 := mkHid (HSZA.out.below hbq)
          have HCZ1 := mkHid (HCZ.out.below hbq)
          have HGZ1 : Hid (∀ w', Below wr.heap.size wr w' → G3 w' X (.slice (some ⟨bb, ob, none⟩) S.B.length A.c0) (.slice A.a1 S.V.length A.c1) (.slice A.a2 S.M.length A.c2)) := mkHid fun w' h => HGZ.out w' (below_step hbq h)
          clear hsy HS HBQ hbq hgi hi hlt HAT HBZ HSZA HCZ HGZ
          go_wp2
          clear q0 q1 q2 j1
          obtain ⟨wy, hwy⟩ : ∃ x : World, x = wr := ⟨_, rfl⟩
          rw [← hwy] at HAT1 HBZ1 HGZ1 HSZ1 HCZ1
          go_loopg [16, 17] S.V.length (fun g s16 s17 wr => ∃ (i : Nat), i ≤ S.V.length ∧ s16 = .int .i64 i ∧ S.V.length - i ≤ g ∧ (∀ (q : Nat) b b' v, q < i → S.B[q]? = some b → S.B[q + 1]? = some b' → S.V[q]? = some v → ∀ (k : Nat) c, numB l b ≤ k → (k : Int) < numB l b' → cs[k]? = some c → hasC v c = true) ∧ Below wy.heap.size wy wr)
          case atStart => exact ⟨0, Nat.zero_le _, rfl, by omega, fun q b b' m h => by omega, by rw [hwy]; exact Below.refl _ _⟩
          case round =>
            clear hwy
            obtain ⟨i, hi, rfl, hgi, hsy, hbq⟩ := hrel
            have HS := mkHid hsy
            have HBQ := mkHid hbq
            clear hsy
            obtain ⟨q0, q1, q2, _, _, _⟩ := HGZ1.out _ hbq
            by_cases hlt : i < S.V.length
            · obtain ⟨b, hb⟩ : ∃ b, S.B[i]? = some b := ⟨_, List.getElem?_eq_getElem (by have := HVL.out; omega)⟩
              obtain ⟨b', hb'⟩ : ∃ b, S.B[i + 1]? = some b := ⟨_, List.getElem?_eq_getElem (by have := HVL.out; omega)⟩
              obtain ⟨v, hv⟩ : ∃ b, S.V[i]? = some b := ⟨_, List.getElem?_eq_getElem hlt⟩
              obtain ⟨x, hx⟩ : ∃ x : Nat, numB l b = x := ⟨(numB l b).toNat, by have := HRG.out i b hb; omega⟩
              obtain ⟨y, hy⟩ : ∃ x : Nat, numB l b' = x := ⟨(numB l b').toNat, by have := HRG.out (i + 1) b' hb'; omega⟩
              have hyc : y ≤ cs.length := by have := HRG.out (i + 1) b' hb'; omega
              have hxy : x ≤ y := by have := HLE.out.mono HML.out 1 i b b' hb hb'; omega
              obtain ⟨_, _, e, _, hn⟩ := (HAT1.out.below hbq).cons (by rw [HNL.out]; exact HK1.out)
              cases e
              have c0 := get_i hn (HNG.out i b hb)
              rw [hx] at c0
              have HNB1 := mkHid (HNG.out (i + 1) b' hb')
              have HBI : Hid (S.B[i]? = some b ∧ S.B[i + 1]? = some b' ∧ S.V[i]? = some v ∧ numB l b = x ∧ numB l b' = y) := mkHid ⟨hb, hb', hv, hx, hy⟩
              have j0 : (0 : Int) ≤ (i : Int) := by omega
              have j1 : (i : Int) < (S.V.length : Int) := by omega
              have j2 : (i : Int) < (k : Int) := by omega
              have j3 : ((i + 1 : Nat) : Int) < (k : Int) := by omega
              have j4 : (0 : Int) ≤ ((i + 1 : Nat) : Int) := by omega
              have hwi : IntKind.i64.wrap ((i : Int) + 1) = ((i + 1 : Nat) : Int) := by rw [IntWalk.i64_in _ (by omega)]; omega
              have hcn : cs.length ≤ 1048576 := HCN.out
              have HAT2 := mkHid (HAT1.out.below hbq)
              have HSZ2 := mkHid (HSZ1.out.below hbq)
              have HCZ2 := mkHid (HCZ1.out.below hbq)
              have HGZ2 : Hid (∀ w', Below wr.heap.size wr w' → G3 w' X (.slice (some ⟨bb, ob, none⟩) S.B.length A.c0) (.slice A.a1 S.V.length A.c1) (.slice A.a2 S.M.length A.c2)) := mkHid fun w' h => HGZ1.out w' (below_step hbq h)
              clear hbq hb hb' hv hx hy hn
              go_wp2
              clear q0 q1 q2 c0
              obtain ⟨wu, hwu⟩ : ∃ x : World, x = wr := ⟨_, rfl⟩
              rw [← hwu] at HAT2 HBQ HGZ2 HSZ2 HCZ2
              go_loopg [17] (y - x) (fun g s17 wr => ∃ (kk : Nat), x ≤ kk ∧ kk ≤ y ∧ s17 = .int .i64 kk ∧ y - kk ≤ g ∧ (∀ (q : Nat) c, x ≤ q → q < kk → cs[q]? = some c → hasC v c = true) ∧ Below wu.heap.size wu wr)
              case atStart => exact ⟨x, Nat.le_refl _, hxy, rfl, by omega, fun q c h1 h2 => by omega, by rw [hwu]; exact Below.refl _ _⟩
              case round =>
                clear hwu
                obtain ⟨kk, hk1, hkk2, rfl, hgk2, hsy, hbq⟩ := hrel
                have HS2 := mkHid hsy
                have HBQ2 := mkHid hbq
                clear hsy
                obtain ⟨q0, q1, q2, _, _, _⟩ := HGZ2.out _ hbq
                obtain ⟨_, _, e, _, hn⟩ := (HAT2.out.below hbq).cons (by rw [HNL.out]; exact HK1.out)
                cases e
                have c1 := get_i hn HNB1.out
                rw [HBI.out.2.2.2.2] at c1
                clear hn
                by_cases hlt2 : kk < y
                · obtain ⟨⟨cb, cv⟩, hcx⟩ : ∃ c, cs[kk]? = some c := ⟨_, List.getElem?_eq_getElem (by omega)⟩
                  obtain ⟨ab, aw, hac, hlac, hcq⟩ := (HCZ2.out.below hbq).cons (by omega)
                  obtain ⟨d0, d1⟩ := get_c hcq hcx
                  obtain ⟨xb, xo, hav, hlav, hvq⟩ := (HSZ2.out.below hbq).v.cons (by omega)
                  obtain ⟨e0, e1, e2⟩ := get_v hvq HBI.out.2.2.1
                  rw [hav] at q1
                  have HCX := mkHid hcx
                  have HAC := mkHid hac
                  have l0 : (0 : Int) ≤ (kk : Int) := by omega
                  have l1 : (kk : Int) < (cs.length : Int) := by omega
                  have l2 : (kk : Int) < (y : Int) := by omega
                  subst hac
                  have hlx : X < wr.heap.size := World.block_lt_of_cell? wr _ q1
                  clear hbq hcq hvq hcx hav q0 q2
                  go_wp2
                  go_region_held3 (fun w' => w'.cell? ⟨X, 1, none⟩ = some (.slice (some ⟨xb, xo, none⟩) S.V.length A.c1) ∧ w'.cell? ⟨xb, xo + i * 3, none⟩ = some (.int .i64 v.1) ∧ w'.cell? ⟨xb, xo + i * 3 + 1, none⟩ = some (.int .i64 v.2.1) ∧ w'.cell? ⟨xb, xo + i * 3 + 2, none⟩ = some (.bool v.2.2) ∧ w'.cell? ⟨ab, aw + kk * 2, none⟩ = some (.bool cb) ∧ w'.cell? ⟨ab, aw + kk * 2 + 1, none⟩ = some (.int .i64 cv)) (first | exact ⟨q1, e0, e1, e2, d0, d1⟩ | exact ⟨(hc _ _ hlx).trans q1, (hc _ _ hlav).trans e0, (hc _ _ hlav).trans e1, (hc _ _ hlav).trans e2, (hc _ _ hlac).trans d0, (hc _ _ hlac).trans d1⟩)
                    (first | (go_at_call 40; refine (sVhas_any v.1 v.2.1 v.2.2 cb cv _).mono ?_; rintro e w9 ⟨rfl, hb1⟩; obtain ⟨hc, hf⟩ := bcell hb1))
                  have HB9 : Hid (Below wu.heap.size wu w9) := mkHid (HBQ2.out.drew.trans (hb1.mono HBQ2.out.drew.size))
                  clear hb1 hc hf q1 e0 e1 e2 d0 d1 c1
                  obtain ⟨r, hr⟩ : ∃ r, hasV v.1 v.2.1 v.2.2 cb cv = r := ⟨_, rfl⟩
                  rw [hr]
                  have HRR : Hid (hasC v (cb, cv) = r) := mkHid hr
                  clear hr
                  cases r
                  · have HNO : Hid (¬ HasP n (j : Int) S l cs) := mkHid fun h => by
                      have h1 := (has_spec h).cell i b b' v HBI.out.1 HBI.out.2.1 HBI.out.2.2.1 kk (cb, cv) (by rw [HBI.out.2.2.2.1]; omega) (by rw [HBI.out.2.2.2.2]; omega) HCX.out
                      rw [HRR.out] at h1
                      cases h1
                    go_wp2
                    go_ret
                    exact Tells.no (below_step HBZ1.out (below_step HBQ.out HB9.out)) HNO.out
                  · have HNX : Hid (∀ (q : Nat) c, x ≤ q → q < kk + 1 → cs[q]? = some c → hasC v c = true) := mkHid fun q c h1 h2 h3 => (by omega : q < kk ∨ q = kk).elim (fun h => HS2.out q c h1 h h3) (fun h => by subst h; rw [HCX.out] at h3; cases h3; exact HRR.out)
                    go_wp2
                    go_roundg (y - (kk + 1))
                    case measure => omega
                    case rel => exact ⟨kk + 1, by omega, by omega, by go_num, Nat.le_refl _, HNX.out, HB9.out⟩
                · have l2 : ¬ (kk : Int) < (y : Int) := by omega
                  have HNX : Hid (∀ (q : Nat) b b' v, q < i + 1 → S.B[q]? = some b → S.B[q + 1]? = some b' → S.V[q]? = some v → ∀ (k : Nat) c, numB l b ≤ k → (k : Int) < numB l b' → cs[k]? = some c → hasC v c = true) := mkHid fun q c c' v' hq h1 h2 h3 => (by omega : q < i ∨ q = i).elim (fun h => HS.out q c c' v' h h1 h2 h3) (fun h => by
                    subst h
                    obtain ⟨a1, a2, a3, a4, a5⟩ := HBI.out
                    rw [a1] at h1; rw [a2] at h2; rw [a3] at h3; cases h1; cases h2; cases h3
                    intro k' c0 u1 u2 u3
                    rw [a4] at u1; rw [a5] at u2
                    exact HS2.out k' c0 (by omega) (by omega) u3)
                  have HBR := mkHid (below_step HBQ.out hbq)
                  clear hbq q0 q1 q2
                  go_wp2
                  go_roundg (S.V.length - (i + 1))
                  case measure => omega
                  case rel => exact ⟨i + 1, by omega, by go_num, Nat.le_refl _, HNX.out, HBR.out⟩
            · have HYES : Hid (HasP n (j : Int) S l cs) := mkHid (spec_has HOK.out HSZ.out HVP.out HCL.out ⟨HONE.out, HLE.out, fun q b b' v h1 h2 h3 => HS.out q b b' v (by obtain ⟨h4, _⟩ := List.getElem?_eq_some_iff.1 h3; omega) h1 h2 h3⟩)
              have j1 : ¬ (i : Int) < (S.V.length : Int) := by omega
              have HBR := mkHid (below_step HBZ1.out hbq)
              clear hbq
              go_wp2
              go_ret
              exact Tells.yes HBR.out HYES.out
end Go.Proofs.YtbfmljogfljhdaaGreat
